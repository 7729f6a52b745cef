/-
  Texts of the proof, joined: Sl, App, Foot, RowT, AppR, Lit, Ints, Bys, PureE, EntM, TailQ, Plain, Pure, Pure2, PureM, PureN.
-/
import Derived.Test.YtfblgkcipnkhaaaGreatDoorProg
import Derived.WalkKit
import Derived.WalkSpells
import Derived.WalkLawsBesides
import Derived.Lib.Hide
import Derived.Lib.LaidTab
import Derived.Lib.AppendIntMem
import Derived.Laws.BytesArg
import Derived.Deep.Draws
import Derived.OwnWalk
import Derived.Lib.AppendStr
import Derived.Deep.DeepCutAuto
import Derived.Deep.CutBlock
import Derived.ProofKit
import Derived.Laws.OwnMore
import Derived.Maps.AppendAt
import Derived.Deep.RegionHeld3
import Derived.Lib.QuietBelow
import Derived.BigQuiet
import Derived.Lib.ItoaNum
import Derived.Lib.ItoaLen
import Derived.Lib.ParseIntB
import Derived.Lib.ParseIntBCases
import GoSem.Op.String

/-
  Words for memory: a slice of bytes that reads as a list; an error as a value.
-/
namespace Go.Proofs.YtfblgkcipnkhaaaGreatDoor.pk
open Go Go.RowKit

/-- A slice value that reads as these bytes, in blocks below B. -/
def Sl (w : World) (B : Nat) (v : Value) (bs : List UInt8) : Prop :=
  ∃ A c, v = .slice A bs.length c ∧ bs.length ≤ c ∧ c ≤ 9223372036854775807 ∧
    (bs = [] ∨ ∃ b off, A = some ⟨b, off, none⟩ ∧ b < B ∧ ∀ j, j < bs.length → w.cell? ⟨b, off + j, none⟩ = some (.int .u8 ((bs.getD j 0).toNat : Int)))

theorem Sl.keep {w w' : World} {B : Nat} {v : Value} {bs : List UInt8} (h : Sl w B v bs) (hk : ∀ p : Addr, p.block < B → w'.cell? p = w.cell? p) : Sl w' B v bs := by
  obtain ⟨A, c, rfl, h1, h2, h3⟩ := h
  refine ⟨A, c, rfl, h1, h2, ?_⟩
  rcases h3 with h3 | ⟨b, off, rfl, hb, hc⟩
  · exact Or.inl h3
  · exact Or.inr ⟨b, off, rfl, hb, fun j hj => (hk _ hb).trans (hc j hj)⟩
theorem Sl.below {w w' : World} {B : Nat} {v : Value} {bs : List UInt8} (h : Sl w B v bs) (hb : Below B w w') : Sl w' B v bs := h.keep fun _ hp => hb.cell hp
theorem Sl.more {w : World} {B B' : Nat} {v : Value} {bs : List UInt8} (h : Sl w B v bs) (hB : B ≤ B') : Sl w B' v bs := by
  obtain ⟨A, c, rfl, h1, h2, h3⟩ := h
  refine ⟨A, c, rfl, h1, h2, ?_⟩
  rcases h3 with h3 | ⟨b, off, rfl, hb, hc⟩
  · exact Or.inl h3
  · exact Or.inr ⟨b, off, rfl, by omega, hc⟩
theorem Sl.nil_ (w : World) (B : Nat) : Sl w B (.slice none 0 0) [] := ⟨none, 0, rfl, by simp, by omega, Or.inl rfl⟩

theorem getD_drop (bs : List UInt8) (k j : Nat) : (bs.drop k).getD j 0 = bs.getD (k + j) 0 := by
  simp [List.getD]

/-- A cut 's[k:]'. -/
theorem Sl.cut {w : World} {B : Nat} {A : Option Addr} {c n : Nat} {bs : List UInt8} (h : Sl w B (.slice A n c) bs) {k : Nat} (hk : k ≤ bs.length) :
    Sl w B (.slice (if c = k then A else A.map (·.add k)) (n - k) (c - k)) (bs.drop k) := by
  obtain ⟨A', c', hv, h1, h2, h3⟩ := h
  injection hv with e1 e2 e3
  subst e1; subst e2; subst e3
  refine ⟨_, _, by rw [List.length_drop], by rw [List.length_drop]; omega, by omega, ?_⟩
  rcases h3 with h3 | ⟨b, off, rfl, hb, hc⟩
  · left; rw [h3]; simp
  · by_cases he : k = bs.length
    · left; exact List.drop_eq_nil_of_le (by omega)
    · right
      by_cases hck : c = k
      · omega
      · rw [if_neg hck]
        refine ⟨b, off + k, ?_, hb, fun j hj => ?_⟩
        · by_cases h0 : k = 0
          · subst h0; simp [Addr.add]
          · simp [Addr.add, h0]
        · rw [List.length_drop] at hj
          rw [getD_drop, Nat.add_assoc]
          exact hc (k + j) (by omega)

/-- The first byte's cell. -/
theorem Sl.head {w : World} {B : Nat} {A : Option Addr} {c n : Nat} {d : UInt8} {r : List UInt8} (h : Sl w B (.slice A n c) (d :: r)) :
    ∃ b off, A = some ⟨b, off, none⟩ ∧ b < B ∧ n = r.length + 1 ∧ r.length + 1 ≤ c ∧ c ≤ 9223372036854775807 ∧ w.cell? ⟨b, off, none⟩ = some (.int .u8 (d.toNat : Int)) := by
  obtain ⟨A', c', hv, h1, h2, h3⟩ := h
  injection hv with e1 e2 e3
  subst e1; subst e2; subst e3
  rcases h3 with h3 | ⟨b, off, rfl, hb, hc⟩
  · cases h3
  · exact ⟨b, off, rfl, hb, rfl, h1, h2, hc 0 (by simp)⟩
theorem Sl.tail_one {w : World} {B b off n : Nat} {d : UInt8} {r : List UInt8} (h : Sl w B (.slice (some ⟨b, off, none⟩) n 1) (d :: r)) : Sl w B (.slice (some ⟨b, off, none⟩) r.length 0) r := by
  have hn : n = r.length + 1 := by obtain ⟨_, _, _, _, hn, _⟩ := h.head; exact hn
  have := h.cut (k := 1) (by simp)
  rw [if_pos rfl, hn] at this
  exact this
theorem Sl.tail_more {w : World} {B b off n c : Nat} {d : UInt8} {r : List UInt8} (h : Sl w B (.slice (some ⟨b, off, none⟩) n c) (d :: r)) (hc : ¬ c = 1) : Sl w B (.slice (some ⟨b, off + 1, none⟩) r.length (c - 1)) r := by
  have hn : n = r.length + 1 := by obtain ⟨_, _, _, _, hn, _⟩ := h.head; exact hn
  have := h.cut (k := 1) (by simp)
  rw [if_neg hc, hn] at this
  exact this
theorem Sl.len {w : World} {B : Nat} {A : Option Addr} {c n : Nat} {bs : List UInt8} (h : Sl w B (.slice A n c) bs) : n = bs.length ∧ n ≤ c ∧ c ≤ 9223372036854775807 := by
  obtain ⟨A', c', hv, h1, h2, _⟩ := h
  injection hv with e1 e2 e3
  subst e1; subst e2; subst e3
  exact ⟨rfl, h1, h2⟩

theorem getD_take (bs : List UInt8) (k j : Nat) (h : j < k) : (bs.take k).getD j 0 = bs.getD j 0 := by
  simp [List.getD, h]

/-- A begin 's[:k]'. -/
theorem Sl.front {w : World} {B : Nat} {A : Option Addr} {c n : Nat} {bs : List UInt8} (h : Sl w B (.slice A n c) bs) {k : Nat} (hk : k ≤ bs.length) :
    Sl w B (.slice A k c) (bs.take k) := by
  obtain ⟨A', c', hv, h1, h2, h3⟩ := h
  injection hv with e1 e2 e3
  subst e1; subst e2; subst e3
  have hl : (bs.take k).length = k := by rw [List.length_take]; omega
  refine ⟨A, c, by rw [hl], by omega, h2, ?_⟩
  rcases h3 with h3 | ⟨b, off, rfl, hb, hc⟩
  · left; rw [h3]; simp
  · right
    refine ⟨b, off, rfl, hb, fun j hj => ?_⟩
    rw [hl] at hj
    rw [getD_take _ _ _ hj]
    exact hc j (by omega)

/-- Bytes as a text: 'string(b)'. -/
theorem conv_any {P : Program} {w : World} {B : Nat} {A : Option Addr} {c n ts td te : Nat} {bs : List UInt8} (t1 : P.underlying ts = some (.slice te)) (t2 : P.underlying te = some (.int .u8))
    (t3 : P.underlying td = some .string) (h : Sl w B (.slice A n c) bs) : (convert ts td (.slice A n c)).run P w = .ok (.string ⟨bs.toArray⟩) w := by
  obtain ⟨A', c', hv, h1, h2, h3⟩ := h
  injection hv with e1 e2 e3
  subst e1; subst e2; subst e3
  rcases h3 with h3 | ⟨b, off, rfl, hb, hc⟩
  · subst h3
    rcases A with _ | a
    · exact run_convert_bytes_nil w _ _ t1 t2 _ _ _ t3
    · rw [run_convert_bytes_string w _ _ _ _ _ _ t1 t2 t3]
      exact run_bytesToString w a _ _ [] (run_loadCells_list (P := P) w a [] (fun j v hj => by simp at hj))
  · have hr := run_convert_bytes_arg w _ _ t1 t2 b off bs.length c (bs.map fun x => (x.toNat : Int)) (by simp) (fun i hi => by
      rw [hc i hi]
      simp [List.getD, List.getElem?_eq_getElem hi]) _ t3
    rw [hr]
    congr 2
    simp [strOfNums, Function.comp_def]
theorem conv_bytes {w : World} {B : Nat} {A : Option Addr} {c n : Nat} {bs : List UInt8} (h : Sl w B (.slice A n c) bs) :
    (convert 22 9 (.slice A n c)).run Tryz.prog w = .ok (.string ⟨bs.toArray⟩) w :=
  conv_any Tryz.underlying22 Tryz.underlying5 Tryz.underlying9 h

end Go.Proofs.YtfblgkcipnkhaaaGreatDoor.pk

/-
  Appending bytes that read as a list onto a row that the call owns; what a row of its own reads as.
-/
namespace Go.Proofs.YtfblgkcipnkhaaaGreatDoor.pk
open Go Go.RowKit

theorem byteCells_get (bs : List UInt8) (j : Nat) : (Lib.byteCells bs)[j]? = (bs[j]?).map fun b => Value.int .u8 (b.toNat : Int) := by
  simp [Lib.byteCells]

/-- What the call owns reads as a slice. -/
theorem Sl.of_own {w : World} {base e : Nat} {v : Value} {bs : List UInt8} (h : w.ownsRow base e 1 v bs.length (Lib.byteCells bs)) (B : Nat) (hB : ∀ g, v.ownBlock = some g → g < B) : Sl w B v bs := by
  rcases h.2 with ⟨rfl, hn⟩ | ⟨g, cap, cur, rfl, hb, hg, hnc, hcm, hcs, htk⟩
  · obtain rfl := List.eq_nil_of_length_eq_zero hn
    exact Sl.nil_ w B
  · refine ⟨some ⟨g, 0, none⟩, cap, rfl, hnc, by simp only [maxLen] at hcm; omega, ?_⟩
    right
    refine ⟨g, 0, rfl, hB g rfl, fun j hj => ?_⟩
    have hc := h.cells (g := g) rfl j (.int .u8 ((bs[j].toNat : Nat) : Int)) (by rw [byteCells_get, List.getElem?_eq_getElem hj]; rfl)
    rw [Lib.add_plain] at hc
    rw [hc]
    simp [List.getD, List.getElem?_eq_getElem hj]

theorem run_append_sl {P : Program} (w : World) (base : Nat) (t ty e : TypeId) (i : TypeInfo) (z : Value) (ht : P.underlying t = some (.slice e)) (hi : P.info? e = some i) (hz : i.zero = some z)
    (hsize : i.size = 1) (hby : i.bytes = 1) (hzs : z.cells.size = 1) (v : Value) (n : Nat) (xs : List Value) (hown : w.ownsRow base e 1 v n xs)
    (B : Nat) (A : Option Addr) (m c : Nat) (bs : List UInt8) (h : Sl w B (.slice A m c) bs) (hbytes : n + bs.length ≤ 140737488355328) (hbase : base ≤ w.heap.size) :
    ∃ v' w', (Builtin.append_ #[t, t] ty #[v, .slice A m c]).run P w = .ok v' w' ∧ w'.ownsRow base e 1 v' (n + bs.length) (xs ++ Lib.byteCells bs) ∧ w.grownBy w' v.ownBlock := by
  obtain ⟨hm, _, _⟩ := h.len
  subst hm
  have nilcase : ∀ a : Option Addr, bs = [] → (Builtin.append_ #[t, t] ty #[v, .slice none 0 c]).run P w = .ok v w := by
    intro _ _
    rcases hown.2 with ⟨rfl, rfl⟩ | ⟨g, cap, cur, rfl, _, _, hnc, _⟩
    · simp [Builtin.append_, run_underlying ht, sizeOf, typeInfo, hi, Builtin.lenOf, Builtin.firstCells]
    · simp [Builtin.append_, run_underlying ht, sizeOf, typeInfo, hi, Builtin.lenOf, Builtin.firstCells, hnc, storeCells]
  have hlen : (Lib.byteCells bs).length = bs.length * 1 := by simp [Lib.byteCells]
  have h1c : ∀ u ∈ Lib.byteCells bs, u.oneCell' = true := by
    intro u hu
    simp only [Lib.byteCells, List.mem_map] at hu
    obtain ⟨b, _, rfl⟩ := hu
    rfl
  rcases A with _ | a
  · have hbs : bs = [] := by
      obtain ⟨A', c', hv, _, _, h3⟩ := h
      rcases h3 with h3 | ⟨b, off, hA, _⟩
      · exact h3
      · injection hv with e1 _ _
        rw [hA] at e1
        cases e1
    subst hbs
    exact ⟨v, w, nilcase none rfl, by simpa [Lib.byteCells] using hown, World.grownBy.refl w _⟩
  · have hcells : ∀ j u, (Lib.byteCells bs)[j]? = some u → w.cell? (a.add j) = some u := by
      intro j u hu
      rw [byteCells_get] at hu
      obtain ⟨A', c', hv, _, _, h3⟩ := h
      rcases h3 with h3 | ⟨b, off, hA, _, hc⟩
      · subst h3; simp at hu
      · injection hv with e1 _ _
        rw [hA] at e1
        injection e1 with e1
        subst e1
        rw [Lib.add_plain]
        have hj : j < bs.length := by
          rcases Nat.lt_or_ge j bs.length with hlt | hge
          · exact hlt
          · rw [List.getElem?_eq_none hge] at hu; simp at hu
        rw [List.getElem?_eq_getElem hj] at hu
        rw [hc j hj]
        simpa [List.getD, List.getElem?_eq_getElem hj] using hu
    obtain ⟨v', w', hrun, h2, h3, _⟩ := run_append_own (P := P) w base t ty e i z 1 1 ht hi hz hsize hby hzs (by decide) v n xs hown a bs.length c (Lib.byteCells bs) hlen hcells h1c
      (by simp only [maxLen]; omega) (by omega) hbase
    exact ⟨v', w', hrun, h2, h3⟩

theorem wp_append_sl {P : Program} {w : World} {o : Oper} {a : Act} {K : Act → World → Prop} {Q : Exit → Act → World → Prop} (s x : Operand) (t : TypeId)
    (ho : o.op = .call { callee := .builtin .append, args := #[s, x], argTypes := #[t, t] })
    (base : Nat) (e : TypeId) (i : TypeInfo) (z : Value) (ht : P.underlying t = some (.slice e)) (hi : P.info? e = some i) (hz : i.zero = some z)
    (hsize : i.size = 1) (hby : i.bytes = 1) (hzs : z.cells.size = 1)
    (v : Value) (n : Nat) (xs : List Value) (hs : a.eval s = v) (hown : w.ownsRow base e 1 v n xs)
    (B : Nat) (A : Option Addr) (m c : Nat) (bs : List UInt8) (hx : a.eval x = .slice A m c) (hr : Sl w B (.slice A m c) bs) (hbytes : n + bs.length ≤ 140737488355328) (hbase : base ≤ w.heap.size)
    (h : ∀ v' w', w'.ownsRow base e 1 v' (n + bs.length) (xs ++ Lib.byteCells bs) → w.grownBy w' v.ownBlock → K (a.put o.dst v') w') : o.wp P a w K Q := by
  obtain ⟨v', w', hrun, h2, h3⟩ := run_append_sl (P := P) w base t o.type e i z ht hi hz hsize hby hzs v n xs hown B A m c bs hr hbytes hbase
  unfold Oper.wp execOp
  simp only [ho, resolve, invoke, builtin, Sem.run_bind, Sem.run_pure, Result.andThen_ok, List.map_toArray, List.map_cons, List.map_nil, hs, hx, hrun]
  exact h v' w' h2 h3

theorem wpList_append_sl {P : Program} {w : World} {ops : Array Oper} {rest : List Oper} {o : Oper} {a : Act} {Q : Exit → Act → World → Prop} (hgd : o.guard = none) (s x : Operand) (t : TypeId)
    (ho : o.op = .call { callee := .builtin .append, args := #[s, x], argTypes := #[t, t] })
    (base : Nat) (e : TypeId) (i : TypeInfo) (z : Value) (ht : P.underlying t = some (.slice e)) (hi : P.info? e = some i) (hz : i.zero = some z)
    (hsize : i.size = 1) (hby : i.bytes = 1) (hzs : z.cells.size = 1)
    (v : Value) (n : Nat) (xs : List Value) (hs : a.eval s = v) (hown : w.ownsRow base e 1 v n xs)
    (B : Nat) (A : Option Addr) (m c : Nat) (bs : List UInt8) (hx : a.eval x = .slice A m c) (hr : Sl w B (.slice A m c) bs) (hbytes : n + bs.length ≤ 140737488355328) (hbase : base ≤ w.heap.size)
    (h : ∀ v' w', w'.ownsRow base e 1 v' (n + bs.length) (xs ++ Lib.byteCells bs) → w.grownBy w' v.ownBlock → wpList P ops Q rest (a.put o.dst v') w') : wpList P ops Q (o :: rest) a w :=
  wpList_plain hgd fun _ hK => wp_append_sl s x t ho base e i z ht hi hz hsize hby hzs v n xs hs hown B A m c bs hx hr hbytes hbase fun v' w' h2 h3 => hK _ _ (h v' w' h2 h3)

/-- A byte's row of the table of types. -/
theorem info_u8 : (Tryz.prog.info? 5).map (fun i => (i.zero, i.size, i.bytes)) = some (some (.int .u8 0), 1, 1) := by kernel_rfl

end Go.Proofs.YtfblgkcipnkhaaaGreatDoor.pk

/-
  Objects with a footprint: which blocks a call may write; what lies outside of them stays.
-/
namespace Go.Proofs.YtfblgkcipnkhaaaGreatDoor.pk
open Go Go.RowKit

/-- A call has left all as it was but the blocks of S, and new ones. -/
structure Kept (S : Nat → Prop) (w w' : World) : Prop where
  os : w'.os = w.os
  tape : w'.tape = w.tape
  output : w'.output = w.output
  size : w.heap.size ≤ w'.heap.size
  block : ∀ k, k < w.heap.size → ¬ S k → w'.heap[k]? = w.heap[k]?

theorem Kept.refl (S : Nat → Prop) (w : World) : Kept S w w := ⟨rfl, rfl, rfl, Nat.le_refl _, fun _ _ _ => rfl⟩
theorem Kept.of_below {S : Nat → Prop} {w w' : World} (h : Below w.heap.size w w') : Kept S w w' := ⟨h.os, h.tape, h.output, h.size, fun k hk _ => h.block k hk⟩
theorem Kept.below {S : Nat → Prop} {w w' : World} {B : Nat} (h : Kept S w w') (hS : ∀ k, S k → B ≤ k) (hB : B ≤ w.heap.size) : Below B w w' :=
  ⟨h.os, h.tape, h.output, h.size, fun k hk => h.block k (Nat.lt_of_lt_of_le hk hB) (fun hs => by have := hS k hs; omega)⟩
theorem Kept.mono {S S' : Nat → Prop} {w w' : World} (h : Kept S w w') (hs : ∀ k, S k → S' k) : Kept S' w w' := ⟨h.os, h.tape, h.output, h.size, fun k hk hn => h.block k hk (fun hk' => hn (hs k hk'))⟩

/-- The footprint has gone from S to S': what is new in it is new. -/
structure Turn (S S' : Nat → Prop) (w w' : World) : Prop where
  kept : Kept S w w'
  new : ∀ k, S' k → S k ∨ w.heap.size ≤ k

theorem Turn.refl (S : Nat → Prop) (w : World) : Turn S S w w := ⟨Kept.refl _ _, fun _ h => Or.inl h⟩
theorem Turn.of_below {S : Nat → Prop} {w w' : World} (h : Below w.heap.size w w') : Turn S S w w' := ⟨Kept.of_below h, fun _ h => Or.inl h⟩
theorem Turn.trans {S S' S'' : Nat → Prop} {a b c : World} (h : Turn S S' a b) (k : Turn S' S'' b c) : Turn S S'' a c := by
  refine ⟨⟨k.kept.os.trans h.kept.os, k.kept.tape.trans h.kept.tape, k.kept.output.trans h.kept.output, Nat.le_trans h.kept.size k.kept.size, fun i hi hn => ?_⟩, fun i hi => ?_⟩
  · have hn' : ¬ S' i := fun hs => by
      rcases h.new i hs with h1 | h1
      · exact hn h1
      · omega
    exact (k.kept.block i (Nat.lt_of_lt_of_le hi h.kept.size) hn').trans (h.kept.block i hi hn)
  · rcases k.new i hi with h1 | h1
    · exact h.new i h1
    · exact Or.inr (Nat.le_trans h.kept.size h1)
theorem Turn.low {S S' : Nat → Prop} {w w' : World} {B : Nat} (h : Turn S S' w w') (hS : ∀ k, S k → B ≤ k) (hB : B ≤ w.heap.size) : ∀ k, S' k → B ≤ k := fun k hk => by
  rcases h.new k hk with h1 | h1
  · exact hS k h1
  · omega
/-- Beside another footprint. -/
theorem Turn.beside {S S' T : Nat → Prop} {w w' : World} (h : Turn S S' w w') : Turn (fun k => S k ∨ T k) (fun k => S' k ∨ T k) w w' :=
  ⟨h.kept.mono fun _ => Or.inl, fun k hk => by
    rcases hk with hk | hk
    · rcases h.new k hk with h1 | h1
      · exact Or.inl (Or.inl h1)
      · exact Or.inr h1
    · exact Or.inl (Or.inr hk)⟩
theorem Turn.beside_left {S S' T : Nat → Prop} {w w' : World} (h : Turn S S' w w') : Turn (fun k => T k ∨ S k) (fun k => T k ∨ S' k) w w' :=
  ⟨h.kept.mono fun _ => Or.inr, fun k hk => by
    rcases hk with hk | hk
    · exact Or.inl (Or.inl hk)
    · rcases h.new k hk with h1 | h1
      · exact Or.inl (Or.inr h1)
      · exact Or.inr h1⟩
theorem Turn.drew {S S' : Nat → Prop} {w w' : World} (h : Turn S S' w w') : Turn S S' w w'.drew := ⟨⟨h.kept.os, h.kept.tape, h.kept.output, h.kept.size, h.kept.block⟩, h.new⟩
theorem Turn.undrew {S S' : Nat → Prop} {w w' : World} (h : Turn S S' w.drew w') : Turn S S' w w' := ⟨⟨h.kept.os, h.kept.tape, h.kept.output, h.kept.size, h.kept.block⟩, h.new⟩

/-- Blocks that are there and lie outside of a footprint. -/
def Av (w : World) (S : Nat → Prop) : Nat → Prop := fun k => k < w.heap.size ∧ ¬ S k
theorem Av.turn {S S' : Nat → Prop} {w w' : World} (h : Turn S S' w w') {k : Nat} (hk : Av w S k) : Av w' S' k := by
  refine ⟨Nat.lt_of_lt_of_le hk.1 h.kept.size, fun hs => ?_⟩
  rcases h.new k hs with h1 | h1
  · exact hk.2 h1
  · have := hk.1; omega
theorem Av.block {S S' : Nat → Prop} {w w' : World} (h : Turn S S' w w') {k : Nat} (hk : Av w S k) : w'.heap[k]? = w.heap[k]? := h.kept.block k hk.1 hk.2
theorem Av.cell {S S' : Nat → Prop} {w w' : World} (h : Turn S S' w w') {p : Addr} (hk : Av w S p.block) : w'.cell? p = w.cell? p := World.cell?_of_block (w := w) (Av.block h hk)

/-- A slice value that reads as these bytes, in blocks of T. -/
def SlT (w : World) (T : Nat → Prop) (v : Value) (bs : List UInt8) : Prop :=
  ∃ A c, v = .slice A bs.length c ∧ bs.length ≤ c ∧ c ≤ 9223372036854775807 ∧
    (bs = [] ∨ ∃ b off, A = some ⟨b, off, none⟩ ∧ T b ∧ ∀ j, j < bs.length → w.cell? ⟨b, off + j, none⟩ = some (.int .u8 ((bs.getD j 0).toNat : Int)))
theorem SlT.mono {w : World} {T T' : Nat → Prop} {v : Value} {bs : List UInt8} (h : SlT w T v bs) (ht : ∀ k, T k → T' k) : SlT w T' v bs := by
  obtain ⟨A, c, rfl, h1, h2, h3⟩ := h
  refine ⟨A, c, rfl, h1, h2, ?_⟩
  rcases h3 with h3 | ⟨b, off, rfl, hb, hc⟩
  · exact Or.inl h3
  · exact Or.inr ⟨b, off, rfl, ht b hb, hc⟩
theorem Sl.toT {w : World} {B : Nat} {v : Value} {bs : List UInt8} (h : Sl w B v bs) : SlT w (fun k => k < B) v bs := h
theorem SlT.sl {w : World} {T : Nat → Prop} {v : Value} {bs : List UInt8} (h : SlT w T v bs) : Sl w w.heap.size v bs := by
  obtain ⟨A, c, rfl, h1, h2, h3⟩ := h
  refine ⟨A, c, rfl, h1, h2, ?_⟩
  rcases h3 with h3 | ⟨b, off, rfl, hb, hc⟩
  · exact Or.inl h3
  · by_cases h0 : bs = []
    · exact Or.inl h0
    · have hl : 0 < bs.length := List.length_pos_iff.2 h0
      exact Or.inr ⟨b, off, rfl, World.block_lt_of_cell? w ⟨b, off + 0, none⟩ (hc 0 hl), hc⟩
theorem SlT.kept {w w' : World} {T : Nat → Prop} {v : Value} {bs : List UInt8} (h : SlT w T v bs) (hk : ∀ k, T k → k < w.heap.size → w'.heap[k]? = w.heap[k]?) : SlT w' T v bs := by
  obtain ⟨A, c, rfl, h1, h2, h3⟩ := h
  refine ⟨A, c, rfl, h1, h2, ?_⟩
  rcases h3 with h3 | ⟨b, off, rfl, hb, hc⟩
  · exact Or.inl h3
  · refine Or.inr ⟨b, off, rfl, hb, fun j hj => ?_⟩
    have := hc j hj
    exact (World.cell?_of_block (w := w) (a := ⟨b, off + j, none⟩) (hk b hb (World.block_lt_of_cell? w ⟨b, off + j, none⟩ this))).trans this
/-- What lies outside of the footprint stays, and stays outside. -/
theorem SlT.turn {S S' : Nat → Prop} {w w' : World} {v : Value} {bs : List UInt8} (h : SlT w (Av w S) v bs) (ht : Turn S S' w w') : SlT w' (Av w' S') v bs :=
  (h.kept fun _ hk _ => Av.block ht hk).mono fun _ hk => Av.turn ht hk
/-- What lies below the footprint lies outside of it. -/
theorem SlT.of_low {S : Nat → Prop} {w : World} {B : Nat} {v : Value} {bs : List UInt8} (h : Sl w B v bs) (hS : ∀ k, S k → B ≤ k) (hB : B ≤ w.heap.size) : SlT w (Av w S) v bs :=
  h.toT.mono fun k hk => ⟨Nat.lt_of_lt_of_le hk hB, fun hs => by have := hS k hs; omega⟩
theorem SlT.nil_ (w : World) (T : Nat → Prop) : SlT w T (.slice none 0 0) [] := ⟨none, 0, rfl, by simp, by omega, Or.inl rfl⟩
theorem SlT.form {w : World} {T : Nat → Prop} {v : Value} {bs : List UInt8} (h : SlT w T v bs) : ∃ A n c, v = .slice A n c := by
  obtain ⟨A, c, rfl, _⟩ := h
  exact ⟨_, _, _, rfl⟩

/-- A cut 's[k:]'. -/
theorem SlT.cut {w : World} {T : Nat → Prop} {A : Option Addr} {c n : Nat} {bs : List UInt8} (h : SlT w T (.slice A n c) bs) {k : Nat} (hk : k ≤ bs.length) :
    SlT w T (.slice (if c = k then A else A.map (·.add k)) (n - k) (c - k)) (bs.drop k) := by
  obtain ⟨A', c', hv, h1, h2, h3⟩ := h
  injection hv with e1 e2 e3
  subst e1; subst e2; subst e3
  refine ⟨_, _, by rw [List.length_drop], by rw [List.length_drop]; omega, by omega, ?_⟩
  rcases h3 with h3 | ⟨b, off, rfl, hb, hc⟩
  · left; rw [h3]; simp
  · by_cases he : k = bs.length
    · left; exact List.drop_eq_nil_of_le (by omega)
    · right
      rw [if_neg (by omega)]
      refine ⟨b, off + k, ?_, hb, fun j hj => ?_⟩
      · by_cases h0 : k = 0
        · subst h0; simp [Addr.add]
        · simp [Addr.add, h0]
      · rw [List.length_drop] at hj
        rw [getD_drop, Nat.add_assoc]
        exact hc (k + j) (by omega)
/-- A begin 's[:k]'. -/
theorem SlT.front {w : World} {T : Nat → Prop} {A : Option Addr} {c n : Nat} {bs : List UInt8} (h : SlT w T (.slice A n c) bs) {k : Nat} (hk : k ≤ bs.length) : SlT w T (.slice A k c) (bs.take k) := by
  obtain ⟨A', c', hv, h1, h2, h3⟩ := h
  injection hv with e1 e2 e3
  subst e1; subst e2; subst e3
  have hl : (bs.take k).length = k := by rw [List.length_take]; omega
  refine ⟨A, c, by rw [hl], by omega, h2, ?_⟩
  rcases h3 with h3 | ⟨b, off, rfl, hb, hc⟩
  · left; rw [h3]; simp
  · right
    refine ⟨b, off, rfl, hb, fun j hj => ?_⟩
    rw [hl] at hj
    rw [getD_take _ _ _ hj]
    exact hc j (by omega)

/-- Its number of bytes under a name. -/
theorem SlT.named {w : World} {T : Nat → Prop} {v : Value} {bs : List UInt8} (h : SlT w T v bs) {m : Nat} (hm : m = bs.length) : ∃ A c, v = .slice A m c ∧ m ≤ c ∧ c ≤ 9223372036854775807 ∧ SlT w T (.slice A m c) bs := by
  subst hm
  have h' := h
  obtain ⟨A, c, rfl, h1, h2, _⟩ := h
  exact ⟨A, c, rfl, h1, h2, h'⟩

end Go.Proofs.YtfblgkcipnkhaaaGreatDoor.pk

/-
  Slices of any elements in memory, cell by cell; an error as a value.
-/
namespace Go.Proofs.YtfblgkcipnkhaaaGreatDoor.pk
open Go Go.RowKit

/-- A slice value of n elements of sz cells each, which hold cs, in blocks of T. -/
def RowT (w : World) (T : Nat → Prop) (sz : Nat) (v : Value) (n : Nat) (cs : List Value) : Prop :=
  cs.length = n * sz ∧ ∃ A c, v = .slice A n c ∧ n ≤ c ∧ c ≤ 9223372036854775807 ∧
    (n = 0 ∨ ∃ b off, A = some ⟨b, off, none⟩ ∧ T b ∧ ∀ j u, cs[j]? = some u → w.cell? ⟨b, off + j, none⟩ = some u)

theorem RowT.mono {w : World} {T T' : Nat → Prop} {sz : Nat} {v : Value} {n : Nat} {cs : List Value} (h : RowT w T sz v n cs) (ht : ∀ k, T k → T' k) : RowT w T' sz v n cs := by
  obtain ⟨h0, A, c, rfl, h1, h2, h3⟩ := h
  refine ⟨h0, A, c, rfl, h1, h2, ?_⟩
  rcases h3 with h3 | ⟨b, off, rfl, hb, hc⟩
  · exact Or.inl h3
  · exact Or.inr ⟨b, off, rfl, ht b hb, hc⟩
theorem RowT.kept {w w' : World} {T : Nat → Prop} {sz : Nat} {v : Value} {n : Nat} {cs : List Value} (h : RowT w T sz v n cs) (hk : ∀ k, T k → k < w.heap.size → w'.heap[k]? = w.heap[k]?) : RowT w' T sz v n cs := by
  obtain ⟨h0, A, c, rfl, h1, h2, h3⟩ := h
  refine ⟨h0, A, c, rfl, h1, h2, ?_⟩
  rcases h3 with h3 | ⟨b, off, rfl, hb, hc⟩
  · exact Or.inl h3
  · refine Or.inr ⟨b, off, rfl, hb, fun j u hj => ?_⟩
    have := hc j u hj
    exact (World.cell?_of_block (w := w) (a := ⟨b, off + j, none⟩) (hk b hb (World.block_lt_of_cell? w ⟨b, off + j, none⟩ this))).trans this
theorem RowT.turn {S S' : Nat → Prop} {w w' : World} {sz : Nat} {v : Value} {n : Nat} {cs : List Value} (h : RowT w (Av w S) sz v n cs) (ht : Turn S S' w w') : RowT w' (Av w' S') sz v n cs :=
  (h.kept fun _ hk _ => Av.block ht hk).mono fun _ hk => Av.turn ht hk
theorem RowT.nil_ (w : World) (T : Nat → Prop) (sz : Nat) : RowT w T sz (.slice none 0 0) 0 [] := ⟨by simp, none, 0, rfl, by omega, by omega, Or.inl rfl⟩
theorem RowT.form {w : World} {T : Nat → Prop} {sz : Nat} {v : Value} {n : Nat} {cs : List Value} (h : RowT w T sz v n cs) : ∃ A c, v = .slice A n c ∧ n ≤ c ∧ c ≤ 9223372036854775807 := by
  obtain ⟨_, A, c, rfl, h1, h2, _⟩ := h
  exact ⟨A, c, rfl, h1, h2⟩
/-- Where there is an element there is a place. -/
theorem RowT.at_ {w : World} {T : Nat → Prop} {sz : Nat} {A : Option Addr} {n n' c : Nat} {cs : List Value} (h : RowT w T sz (.slice A n' c) n cs) (hn : 0 < n) :
    n' = n ∧ n ≤ c ∧ c ≤ 9223372036854775807 ∧ ∃ b off, A = some ⟨b, off, none⟩ ∧ T b ∧ ∀ j u, cs[j]? = some u → w.cell? ⟨b, off + j, none⟩ = some u := by
  obtain ⟨_, A', c', hv, h1, h2, h3⟩ := h
  injection hv with e1 e2 e3
  subst e1; subst e2; subst e3
  rcases h3 with h3 | h3
  · omega
  · exact ⟨rfl, h1, h2, h3⟩
/-- What the call owns. -/
theorem RowT.of_own {w : World} {base e sz : Nat} {v : Value} {n : Nat} {cs : List Value} (h : w.ownsRow base e sz v n cs) (T : Nat → Prop) (hT : ∀ g, v.ownBlock = some g → T g) : RowT w T sz v n cs := by
  refine ⟨h.1, ?_⟩
  rcases h.2 with ⟨rfl, rfl⟩ | ⟨g, cap, cur, rfl, hb, hg, hnc, hcm, hcs, htk⟩
  · exact ⟨none, 0, rfl, by omega, by omega, Or.inl rfl⟩
  · refine ⟨some ⟨g, 0, none⟩, cap, rfl, hnc, by simp only [maxLen] at hcm; omega, Or.inr ⟨g, 0, rfl, hT g rfl, fun j u hj => ?_⟩⟩
    have hc := h.cells (g := g) rfl j u hj
    rw [Lib.add_plain] at hc
    exact hc
/-- A begin 's[:k]'. -/
theorem RowT.front {w : World} {T : Nat → Prop} {sz : Nat} {A : Option Addr} {n n' c : Nat} {cs : List Value} (h : RowT w T sz (.slice A n' c) n cs) {k : Nat} (hk : k ≤ n) : RowT w T sz (.slice A k c) k (cs.take (k * sz)) := by
  obtain ⟨h0, A', c', hv, h1, h2, h3⟩ := h
  injection hv with e1 e2 e3
  subst e1; subst e2; subst e3
  have hm : k * sz ≤ n' * sz := Nat.mul_le_mul_right sz hk
  refine ⟨by rw [List.length_take]; omega, A, c, rfl, by omega, h2, ?_⟩
  rcases h3 with h3 | ⟨b, off, rfl, hb, hc⟩
  · left; omega
  · by_cases hk0 : k = 0
    · exact Or.inl hk0
    · refine Or.inr ⟨b, off, rfl, hb, fun j u hj => hc j u ?_⟩
      rw [List.getElem?_take] at hj
      split at hj
      · exact hj
      · cases hj

/-- Numbers, truths. -/
def IntsT (w : World) (T : Nat → Prop) (v : Value) (zs : List Int) : Prop := RowT w T 1 v zs.length (zs.map (Value.int .i64))
def BoolsT (w : World) (T : Nat → Prop) (v : Value) (zs : List Bool) : Prop := RowT w T 1 v zs.length (zs.map Value.bool)

theorem SlT.row {w : World} {T : Nat → Prop} {v : Value} {bs : List UInt8} (h : SlT w T v bs) : RowT w T 1 v bs.length (Lib.byteCells bs) := by
  obtain ⟨A, c, rfl, h1, h2, h3⟩ := h
  refine ⟨by simp [Lib.byteCells], A, c, rfl, h1, h2, ?_⟩
  rcases h3 with h3 | ⟨b, off, rfl, hb, hc⟩
  · left; rw [h3]; rfl
  · refine Or.inr ⟨b, off, rfl, hb, fun j u hj => ?_⟩
    rw [byteCells_get] at hj
    obtain ⟨x, hx, rfl⟩ := Option.map_eq_some_iff.1 hj
    obtain ⟨hlt, hx'⟩ := List.getElem?_eq_some_iff.1 hx
    have := hc j hlt
    rw [this]
    simp [List.getD, hx]
theorem RowT.sl {w : World} {T : Nat → Prop} {v : Value} {bs : List UInt8} (h : RowT w T 1 v bs.length (Lib.byteCells bs)) : SlT w T v bs := by
  obtain ⟨_, A, c, rfl, h1, h2, h3⟩ := h
  refine ⟨A, c, rfl, h1, h2, ?_⟩
  rcases h3 with h3 | ⟨b, off, rfl, hb, hc⟩
  · exact Or.inl (List.eq_nil_of_length_eq_zero h3)
  · refine Or.inr ⟨b, off, rfl, hb, fun j hj => ?_⟩
    have := hc j (.int .u8 ((bs[j].toNat : Nat) : Int)) (by rw [byteCells_get, List.getElem?_eq_getElem hj]; rfl)
    rw [this]
    simp [List.getD, List.getElem?_eq_getElem hj]
/-- What the call owns, as bytes. -/
theorem SlT.of_own {w : World} {base e : Nat} {v : Value} {bs : List UInt8} (h : w.ownsRow base e 1 v bs.length (Lib.byteCells bs)) (T : Nat → Prop) (hT : ∀ g, v.ownBlock = some g → T g) : SlT w T v bs := (RowT.of_own h T hT).sl

/-- Bytes' places, where there is one. -/
theorem sl_at {w : World} {T : Nat → Prop} {A : Option Addr} {n n' c : Nat} {bs : List UInt8} (h : SlT w T (.slice A n c) bs) (hn : bs.length = n') (h0 : 0 < n') :
    ∃ b off, A = some ⟨b, off, none⟩ ∧ ∀ t, t < n' → w.cell? ⟨b, off + t, none⟩ = some (.int .u8 ((bs.getD t 0).toNat : Int)) := by
  obtain ⟨A', c', hv, _, _, h3⟩ := h
  injection hv with e1 _ _
  subst e1
  rcases h3 with h3 | ⟨b, off, rfl, _, hc⟩
  · rw [h3] at hn; simp at hn; omega
  · exact ⟨b, off, rfl, fun t ht => hc t (by omega)⟩

/-- A slice of slices of bytes. -/
def ListsT (w : World) (T : Nat → Prop) (v : Value) (ls : List (List UInt8)) : Prop :=
  ∃ cs, RowT w T 1 v ls.length cs ∧ ∀ j (h : j < ls.length), ∃ u, cs[j]? = some u ∧ SlT w T u ls[j]
theorem ListsT.form {w : World} {T : Nat → Prop} {v : Value} {ls : List (List UInt8)} (h : ListsT w T v ls) : ∃ A c, v = .slice A ls.length c ∧ ls.length ≤ c ∧ c ≤ 9223372036854775807 := by
  obtain ⟨cs, h, _⟩ := h
  exact h.form
theorem ListsT.at_ {w : World} {T : Nat → Prop} {A : Option Addr} {m c : Nat} {ls : List (List UInt8)} (h : ListsT w T (.slice A m c) ls) (i : Nat) (hi : i < ls.length) :
    ∃ b off Ai ci, A = some ⟨b, off, none⟩ ∧ T b ∧ w.cell? ⟨b, off + i, none⟩ = some (.slice Ai ls[i].length ci) ∧ SlT w T (.slice Ai ls[i].length ci) ls[i] := by
  obtain ⟨cs, hr, he⟩ := h
  obtain ⟨_, _, _, b, off, rfl, hb, hc⟩ := hr.at_ (by omega)
  obtain ⟨u, hu, hs⟩ := he i hi
  have hs' := hs
  obtain ⟨Ai, ci, rfl, _⟩ := hs
  exact ⟨b, off, Ai, ci, rfl, hb, hc i _ hu, hs'⟩

/-- What int holds. -/
def inI (n : Int) : Prop := -9223372036854775808 ≤ n ∧ n ≤ 9223372036854775807

/-- An error as a value: 0 is none. -/
def er (k : Nat) : Value := if k = 0 then .nilIface else .iface 60 (.int .i64 (k : Int))
theorem er_zero : er 0 = .nilIface := rfl
theorem er_ne {k : Nat} (hk : k ≠ 0) : er k = .iface 60 (.int .i64 (k : Int)) := by unfold er; rw [if_neg hk]

end Go.Proofs.YtfblgkcipnkhaaaGreatDoor.pk

/-
  Appending elements of any size, read as a list of cells, onto a row that the call owns.
-/
namespace Go.Proofs.YtfblgkcipnkhaaaGreatDoor.pk
open Go Go.RowKit

theorem run_append_row {P : Program} (w : World) (base : Nat) (t ty e : TypeId) (i : TypeInfo) (z : Value) (size bytes : Nat) (ht : P.underlying t = some (.slice e)) (hi : P.info? e = some i) (hz : i.zero = some z)
    (hsize : i.size = size) (hby : i.bytes = bytes) (hzs : z.cells.size = size) (hs0 : 0 < size) (v : Value) (n : Nat) (xs : List Value) (hown : w.ownsRow base e size v n xs)
    (T : Nat → Prop) (A : Option Addr) (m c : Nat) (cs : List Value) (h : RowT w T size (.slice A m c) m cs) (h1c : ∀ u ∈ cs, u.oneCell' = true) (hmax : n + m ≤ maxLen) (hbytes : (n + m) * bytes ≤ 140737488355328) (hbase : base ≤ w.heap.size) :
    ∃ v' w', (Builtin.append_ #[t, t] ty #[v, .slice A m c]).run P w = .ok v' w' ∧ w'.ownsRow base e size v' (n + m) (xs ++ cs) ∧ w.grownBy w' v.ownBlock := by
  obtain ⟨hlen, A', c', hv, hmc, hcm, h3⟩ := h
  injection hv with e1 e2 e3
  subst e1; subst e3
  have nilcase : m = 0 → (Builtin.append_ #[t, t] ty #[v, .slice none 0 c]).run P w = .ok v w := by
    intro _
    rcases hown.2 with ⟨rfl, rfl⟩ | ⟨g, cap, cur, rfl, _, _, hnc, _⟩
    · simp [Builtin.append_, run_underlying ht, sizeOf, typeInfo, hi, Builtin.lenOf, Builtin.firstCells]
    · simp [Builtin.append_, run_underlying ht, sizeOf, typeInfo, hi, Builtin.lenOf, Builtin.firstCells, hnc, storeCells]
  rcases A with _ | a
  · have hm0 : m = 0 := by
      rcases h3 with h3 | ⟨b, off, hA, _⟩
      · exact h3
      · cases hA
    subst hm0
    have hcs : cs = [] := List.eq_nil_of_length_eq_zero (by simpa using hlen)
    subst hcs
    exact ⟨v, w, nilcase rfl, by simpa using hown, World.grownBy.refl w _⟩
  · have hcells : ∀ j u, cs[j]? = some u → w.cell? (a.add j) = some u := by
      intro j u hu
      rcases h3 with h3 | ⟨b, off, hA, _, hc⟩
      · subst h3
        have hcs : cs = [] := List.eq_nil_of_length_eq_zero (by simpa using hlen)
        subst hcs
        simp at hu
      · injection hA with hA
        subst hA
        rw [Lib.add_plain]
        exact hc j u hu
    obtain ⟨v', w', hrun, h2, h3, _⟩ := run_append_own (P := P) w base t ty e i z size bytes ht hi hz hsize hby hzs hs0 v n xs hown a m c cs hlen hcells h1c hmax hbytes hbase
    exact ⟨v', w', hrun, h2, h3⟩

theorem wp_append_row {P : Program} {w : World} {o : Oper} {a : Act} {K : Act → World → Prop} {Q : Exit → Act → World → Prop} (s x : Operand) (t : TypeId)
    (ho : o.op = .call { callee := .builtin .append, args := #[s, x], argTypes := #[t, t] })
    (base : Nat) (e : TypeId) (i : TypeInfo) (z : Value) (size bytes : Nat) (ht : P.underlying t = some (.slice e)) (hi : P.info? e = some i) (hz : i.zero = some z)
    (hsize : i.size = size) (hby : i.bytes = bytes) (hzs : z.cells.size = size) (hs0 : 0 < size) (v : Value) (n : Nat) (xs : List Value) (hs : a.eval s = v) (hown : w.ownsRow base e size v n xs)
    (T : Nat → Prop) (A : Option Addr) (m c : Nat) (cs : List Value) (hx : a.eval x = .slice A m c) (h : RowT w T size (.slice A m c) m cs) (h1c : ∀ u ∈ cs, u.oneCell' = true) (hmax : n + m ≤ maxLen) (hbytes : (n + m) * bytes ≤ 140737488355328) (hbase : base ≤ w.heap.size)
    (hK : ∀ v' w', w'.ownsRow base e size v' (n + m) (xs ++ cs) → w.grownBy w' v.ownBlock → K (a.put o.dst v') w') : o.wp P a w K Q := by
  obtain ⟨v', w', hrun, h2, h3⟩ := run_append_row (P := P) w base t o.type e i z size bytes ht hi hz hsize hby hzs hs0 v n xs hown T A m c cs h h1c hmax hbytes hbase
  unfold Oper.wp execOp
  simp only [ho, resolve, invoke, builtin, Sem.run_bind, Sem.run_pure, Result.andThen_ok, List.map_toArray, List.map_cons, List.map_nil, hs, hx, hrun]
  exact hK v' w' h2 h3

theorem wpList_append_row {P : Program} {w : World} {ops : Array Oper} {rest : List Oper} {o : Oper} {a : Act} {Q : Exit → Act → World → Prop} (hgd : o.guard = none) (s x : Operand) (t : TypeId)
    (ho : o.op = .call { callee := .builtin .append, args := #[s, x], argTypes := #[t, t] })
    (base : Nat) (e : TypeId) (i : TypeInfo) (z : Value) (size bytes : Nat) (ht : P.underlying t = some (.slice e)) (hi : P.info? e = some i) (hz : i.zero = some z)
    (hsize : i.size = size) (hby : i.bytes = bytes) (hzs : z.cells.size = size) (hs0 : 0 < size) (v : Value) (n : Nat) (xs : List Value) (hs : a.eval s = v) (hown : w.ownsRow base e size v n xs)
    (T : Nat → Prop) (A : Option Addr) (m c : Nat) (cs : List Value) (hx : a.eval x = .slice A m c) (h : RowT w T size (.slice A m c) m cs) (h1c : ∀ u ∈ cs, u.oneCell' = true) (hmax : n + m ≤ maxLen) (hbytes : (n + m) * bytes ≤ 140737488355328) (hbase : base ≤ w.heap.size)
    (hK : ∀ v' w', w'.ownsRow base e size v' (n + m) (xs ++ cs) → w.grownBy w' v.ownBlock → wpList P ops Q rest (a.put o.dst v') w') : wpList P ops Q (o :: rest) a w :=
  wpList_plain hgd fun K hK' => by
    obtain ⟨v', w', hrun, h2, h3⟩ := run_append_row (P := P) w base t o.type e i z size bytes ht hi hz hsize hby hzs hs0 v n xs hown T A m c cs h h1c hmax hbytes hbase
    unfold Oper.wp execOp
    simp only [ho, resolve, invoke, builtin, Sem.run_bind, Sem.run_pure, Result.andThen_ok, List.map_toArray, List.map_cons, List.map_nil, hs, hx, hrun]
    exact hK' _ _ (hK v' w' h2 h3)

end Go.Proofs.YtfblgkcipnkhaaaGreatDoor.pk

/-
  A slice written out: what it reads as.
-/
namespace Go.Proofs.YtfblgkcipnkhaaaGreatDoor.pk
open Go Go.RowKit

/-- Bytes written out, as a slice. -/
theorem Sl.lit (w : World) (t : Nat) (bs : List UInt8) (B : Nat) (hB : w.heap.size < B) (hl : bs.length ≤ 9223372036854775807) (fz : Nat × Nat := (0, 0)) :
    Sl (w.alloc (.cells (bs.map fun b => Value.int .u8 (b.toNat : Int)).toArray t fz)) B (.slice (some ⟨w.heap.size, 0, none⟩) bs.length bs.length) bs := by
  refine ⟨some ⟨w.heap.size, 0, none⟩, bs.length, rfl, Nat.le_refl _, hl, Or.inr ⟨w.heap.size, 0, rfl, hB, fun j hj => ?_⟩⟩
  rw [cell_of_row _ w.heap.size _ _ _ fz (heap_alloc_new w _)]
  simp [List.getD, List.getElem?_eq_getElem hj]

theorem Sl.form {w : World} {B : Nat} {v : Value} {bs : List UInt8} (h : Sl w B v bs) : ∃ A n c, v = .slice A n c := by
  obtain ⟨A, c, rfl, _⟩ := h
  exact ⟨_, _, _, rfl⟩

theorem grown_below {w w' : World} (h : Below w.heap.size w w') (row : Option Nat) : w.grownBy w' row := ⟨h.os, h.tape, h.output, h.size, fun i hi _ => h.block i hi⟩
theorem grown_trans {a b c : World} {row : Option Nat} (h : a.grownBy b row) (k : b.grownBy c row) : a.grownBy c row :=
  ⟨k.os.trans h.os, k.tape.trans h.tape, k.output.trans h.output, Nat.le_trans h.size k.size, fun i hi hne => (k.block i (Nat.lt_of_lt_of_le hi h.size) hne).trans (h.block i hi hne)⟩
/-- What the call owns stays its own where nothing that was there has changed. -/
theorem own_below {w w' : World} {base e n : Nat} {v : Value} {xs : List Value} (h : w.ownsRow base e 1 v n xs) (hb : Below w.heap.size w w') : w'.ownsRow base e 1 v n xs := by
  refine h.kept (grown_below hb (some w.heap.size)) (Or.inr fun e => ?_)
  have := (h.lt _ e).2
  omega
/-- An own row as a slice, its number of bytes under a name. -/
theorem own_sl {w : World} {base e n : Nat} {v : Value} {bs : List UInt8} (h : w.ownsRow base e 1 v n (Lib.byteCells bs)) (hn : n = bs.length) : ∃ A c, v = .slice A n c ∧ Sl w w.heap.size (.slice A n c) bs := by
  subst hn
  obtain ⟨A, c, rfl, hx⟩ := Sl.of_own h w.heap.size fun g hg => (h.lt g hg).2
  exact ⟨A, c, rfl, A, c, rfl, hx⟩

theorem byteCells_set (l : List UInt8) (k : Nat) (c : UInt8) : (Lib.byteCells l).set k (.int .u8 (c.toNat : Int)) = Lib.byteCells (l.set k c) := by
  simp [Lib.byteCells, List.map_set]
/-- An own row that is not empty, written out. -/
theorem row_form {w : World} {base n e : Nat} {v : Value} {xs : List Value} (h : w.ownsRow base e 1 v n xs) (hn : 0 < n) :
    ∃ g cap, v = .slice (some ⟨g, 0, none⟩) n cap ∧ base ≤ g ∧ g < w.heap.size ∧ n ≤ cap ∧ cap ≤ 9223372036854775807 := by
  rcases h.2 with ⟨_, h0⟩ | ⟨g, cap, cur, rfl, hb, hg, hnc, hcm, _⟩
  · omega
  · refine ⟨g, cap, rfl, hb, (h.lt g rfl).2, hnc, by simp only [maxLen] at hcm; omega⟩

end Go.Proofs.YtfblgkcipnkhaaaGreatDoor.pk

/-
  Numbers in memory that nobody writes any more; a row of numbers of one's own.
-/
namespace Go.Proofs.YtfblgkcipnkhaaaGreatDoor.pk
open Go Go.RowKit
set_option maxRecDepth 100000

/-- A slice of numbers, each an int. -/
def Ints (w : World) (v : Value) (zs : List Int) : Prop := IntsT w (fun k => k < w.heap.size) v zs ∧ ∀ z ∈ zs, inI z

theorem Ints.below {w w' : World} {v : Value} {zs : List Int} (h : Ints w v zs) (hb : Below w.heap.size w w') : Ints w' v zs :=
  ⟨(RowT.kept h.1 fun k hk _ => hb.block k hk).mono fun _ hk => Nat.lt_of_lt_of_le hk hb.size, h.2⟩
theorem Ints.nil_ (w : World) : Ints w (.slice none 0 0) [] := ⟨RowT.nil_ _ _ _, fun z hz => by cases hz⟩
theorem Ints.form {w : World} {v : Value} {zs : List Int} (h : Ints w v zs) : ∃ A c, v = .slice A zs.length c ∧ zs.length ≤ c ∧ c ≤ 9223372036854775807 := RowT.form h.1
theorem Ints.at_ {w : World} {A : Option Addr} {n c : Nat} {zs : List Int} (h : Ints w (.slice A n c) zs) :
    n = zs.length ∧ n ≤ c ∧ c ≤ 9223372036854775807 ∧ (0 < n → ∃ b off, A = some ⟨b, off, none⟩ ∧ b < w.heap.size ∧ ∀ j, j < n → w.cell? ⟨b, off + j, none⟩ = some (.int .i64 (zs.getD j 0))) := by
  obtain ⟨A', c', hv, h1, h2⟩ := h.form
  injection hv with e1 e2 e3
  subst e1; subst e2; subst e3
  refine ⟨rfl, h1, h2, fun h0 => ?_⟩
  obtain ⟨-, -, -, b, off, rfl, hb, hc⟩ := RowT.at_ h.1 h0
  refine ⟨b, off, rfl, hb, fun j hj => ?_⟩
  exact hc j _ (by rw [List.getElem?_map, List.getElem?_eq_getElem hj]; simp [List.getD, List.getElem?_eq_getElem hj])
theorem Ints.len_le {w : World} {A : Option Addr} {m c : Nat} {zs : List Int} (h : Ints w (.slice A m c) zs) : m = zs.length := h.at_.1
theorem Ints.of_own {w : World} {base : Nat} {v : Value} {zs : List Int} (h : w.ownsRow base 3 1 v zs.length (zs.map (Value.int .i64))) (hi : ∀ z ∈ zs, inI z) : Ints w v zs :=
  ⟨RowT.of_own h _ fun g hg => (h.lt g hg).2, hi⟩
theorem Ints.getD_in {w : World} {v : Value} {zs : List Int} (h : Ints w v zs) (j : Nat) : inI (zs.getD j 0) := by
  by_cases hj : j < zs.length
  · exact h.2 _ (by simp [List.getD, List.getElem?_eq_getElem hj])
  · rw [List.getD, List.getElem?_eq_none (by omega)]
    exact ⟨by simp, by simp⟩

theorem info_int : (Tryz.prog.info? 3).map (fun i => (i.zero, i.size, i.bytes)) = some (some (.int .i64 0), 1, 8) := by kernel_rfl
theorem info_three {P : Program} {e : TypeId} {z : Value} {s b : Nat} (h : (P.info? e).map (fun i => (i.zero, i.size, i.bytes)) = some (some z, s, b)) : ∃ i, P.info? e = some i ∧ i.zero = some z ∧ i.size = s ∧ i.bytes = b := by
  cases hi : P.info? e with
  | none => rw [hi] at h; cases h
  | some i =>
    rw [hi] at h
    simp only [Option.map_some, Option.some.injEq, Prod.mk.injEq] at h
    exact ⟨i, rfl, h.1, h.2.1, h.2.2⟩

theorem below_drawn {B : Nat} {w w' : World} (h : Below B w w') (n : Nat) : Below B w (w'.drewN n) := ⟨h.os, h.tape, h.output, h.size, h.block⟩
theorem below_alloc (W : World) (bl : Obj) : Below W.heap.size W (W.alloc bl) := (Below.refl _ _).alloc (Nat.le_refl _) _
/-- What is read stands in a row written out just before. -/
theorem RowT.lit {w : World} {g t n : Nat} {cs : List Value} {sz : Nat} (hg : w.heap[g]? = some (.cells cs.toArray t (0, 0))) (hn : cs.length = n * sz) (hm : n ≤ 9223372036854775807) : RowT w (fun _ => True) sz (.slice (some ⟨g, 0, none⟩) n n) n cs := by
  refine ⟨hn, some ⟨g, 0, none⟩, n, rfl, Nat.le_refl _, hm, Or.inr ⟨g, 0, rfl, trivial, fun j u hj => ?_⟩⟩
  rw [Nat.zero_add, cell_of_row w g _ _ _ (0, 0) hg]
  simpa using hj

section
variable {w : World} {B : Nat} {v : Value} {zs : List Int} {ops : Array Oper} {rest : List Oper} {o : Oper} {a : Act} {R : Exit → Act → World → Prop}
/-- One more number onto a row of one's own. -/
theorem wpList_pushI (hown : w.ownsRow B 3 1 v zs.length (zs.map (Value.int .i64))) (hgd : o.guard = none) (s x : Operand)
    (ho : o.op = .call { callee := .builtin .append, args := #[s, x], argTypes := #[124, 124] }) (hs : a.eval s = v) (g : Nat) (hx : a.eval x = .slice (some ⟨g, 0, none⟩) 1 1) (z : Int)
    (hg : w.heap[g]? = some (.cells #[.int .i64 z] 3 (0, 0))) (hl : zs.length < 1000000000000) (hB : B ≤ w.heap.size)
    (hK : ∀ v' w', w'.ownsRow B 3 1 v' (zs ++ [z]).length ((zs ++ [z]).map (Value.int .i64)) → w.grownBy w' v.ownBlock → wpList Tryz.prog ops R rest (a.put o.dst v') w') : wpList Tryz.prog ops R (o :: rest) a w := by
  obtain ⟨i0, hi, hz0, hz1, hz2⟩ := info_three info_int
  refine wpList_append_row hgd s x 124 ho B 3 i0 _ 1 8 Tryz.underlying124 hi hz0 hz1 hz2 rfl (by omega) v zs.length _ hs hown (fun _ => True) _ 1 1 [.int .i64 z] hx (RowT.lit hg (by rfl) (by omega)) (fun u hu => by rw [List.mem_singleton.1 hu]; rfl) (by simp only [maxLen]; omega) (by omega) hB ?_
  intro v' w' h1 h2
  refine hK v' w' ?_ h2
  rw [List.length_append, List.map_append]
  exact h1
/-- A row of numbers onto a row of one's own. -/
theorem wpList_joinI (hown : w.ownsRow B 3 1 v zs.length (zs.map (Value.int .i64))) (hgd : o.guard = none) (s x : Operand)
    (ho : o.op = .call { callee := .builtin .append, args := #[s, x], argTypes := #[124, 124] }) (hs : a.eval s = v) (A : Option Addr) (n c : Nat) (hx : a.eval x = .slice A n c) (T : Nat → Prop) (ys : List Int)
    (hy : RowT w T 1 (.slice A n c) n (ys.map (Value.int .i64))) (hn : ys.length = n) (hl : zs.length + n < 1000000000000) (hB : B ≤ w.heap.size)
    (hK : ∀ v' w', w'.ownsRow B 3 1 v' (zs ++ ys).length ((zs ++ ys).map (Value.int .i64)) → w.grownBy w' v.ownBlock → wpList Tryz.prog ops R rest (a.put o.dst v') w') : wpList Tryz.prog ops R (o :: rest) a w := by
  obtain ⟨i0, hi, hz0, hz1, hz2⟩ := info_three info_int
  refine wpList_append_row hgd s x 124 ho B 3 i0 _ 1 8 Tryz.underlying124 hi hz0 hz1 hz2 rfl (by omega) v zs.length _ hs hown T A n c _ hx hy (fun u hu => by obtain ⟨z, _, rfl⟩ := List.mem_map.1 hu; rfl) (by simp only [maxLen]; omega) (by omega) hB ?_
  intro v' w' h1 h2
  refine hK v' w' ?_ h2
  rw [List.length_append, List.map_append, hn]
  exact h1
end

theorem own_base {w : World} {base base' e sz n : Nat} {v : Value} {xs : List Value} (h : w.ownsRow base e sz v n xs) (hb : base' ≤ base) : w.ownsRow base' e sz v n xs := by
  refine ⟨h.1, ?_⟩
  rcases h.2 with hn | ⟨g, cap, cur, rfl, h1, rest⟩
  · exact Or.inl hn
  · exact Or.inr ⟨g, cap, cur, rfl, Nat.le_trans hb h1, rest⟩
/-- A row of one's own stays where nothing that was there has changed. -/
theorem own_kept {w w' : World} {base e sz n : Nat} {v : Value} {xs : List Value} (h : w.ownsRow base e sz v n xs) (hb : Below w.heap.size w w') : w'.ownsRow base e sz v n xs := by
  refine ⟨h.1, ?_⟩
  rcases h.2 with hn | ⟨g, cap, cur, rfl, h1, hg, rest⟩
  · exact Or.inl hn
  · exact Or.inr ⟨g, cap, cur, rfl, h1, (hb.block g (h.lt g rfl).2).trans hg, rest⟩

end Go.Proofs.YtfblgkcipnkhaaaGreatDoor.pk

/-
  Bytes in memory that nobody writes any more; a row of bytes of one's own.
-/
namespace Go.Proofs.YtfblgkcipnkhaaaGreatDoor.pk
open Go Go.RowKit
set_option maxRecDepth 100000

/-- A slice of bytes. -/
def Bys (w : World) (v : Value) (bs : List UInt8) : Prop := SlT w (fun k => k < w.heap.size) v bs

theorem Bys.below {w w' : World} {v : Value} {bs : List UInt8} (h : Bys w v bs) (hb : Below w.heap.size w w') : Bys w' v bs :=
  (SlT.kept h fun k hk _ => hb.block k hk).mono fun _ hk => Nat.lt_of_lt_of_le hk hb.size
theorem Bys.nil_ (w : World) : Bys w (.slice none 0 0) [] := SlT.nil_ _ _
theorem Bys.form {w : World} {v : Value} {bs : List UInt8} (h : Bys w v bs) : ∃ A c, v = .slice A bs.length c ∧ bs.length ≤ c ∧ c ≤ 9223372036854775807 := by
  obtain ⟨A, c, hv, h1, h2, _⟩ := h
  exact ⟨A, c, hv, h1, h2⟩
theorem Bys.at_ {w : World} {A : Option Addr} {n c : Nat} {bs : List UInt8} (h : Bys w (.slice A n c) bs) :
    n = bs.length ∧ n ≤ c ∧ c ≤ 9223372036854775807 ∧ (0 < n → ∃ b off, A = some ⟨b, off, none⟩ ∧ b < w.heap.size ∧ ∀ j, j < n → w.cell? ⟨b, off + j, none⟩ = some (.int .u8 ((bs.getD j 0).toNat : Int))) := by
  obtain ⟨A', c', hv, h1, h2, h3⟩ := h
  injection hv with e1 e2 e3
  subst e1; subst e2; subst e3
  refine ⟨rfl, h1, h2, fun h0 => ?_⟩
  rcases h3 with h3 | ⟨b, off, rfl, hb, hc⟩
  · rw [h3] at h0; simp at h0
  · exact ⟨b, off, rfl, hb, hc⟩
theorem Bys.len_ {w : World} {A : Option Addr} {n c : Nat} {bs : List UInt8} (h : Bys w (.slice A n c) bs) : n = bs.length := h.at_.1
theorem Bys.of_own {w : World} {base e : Nat} {v : Value} {bs : List UInt8} (h : w.ownsRow base e 1 v bs.length (Lib.byteCells bs)) : Bys w v bs := SlT.of_own h _ fun g hg => (h.lt g hg).2
theorem Bys.sl_ {w : World} {v : Value} {bs : List UInt8} (h : Bys w v bs) : Sl w w.heap.size v bs := SlT.sl h
theorem Bys.of_sl {w : World} {v : Value} {bs : List UInt8} (h : Sl w w.heap.size v bs) : Bys w v bs := by
  obtain ⟨A, c, rfl, h1, h2, h3⟩ := h
  exact ⟨A, c, rfl, h1, h2, h3⟩

theorem info_byte : (Tryz.prog.info? 5).map (fun i => (i.zero, i.size, i.bytes)) = some (some (.int .u8 0), 1, 1) := by kernel_rfl
section
variable {w : World} {B : Nat} {v : Value} {xs : List UInt8} {ops : Array Oper} {rest : List Oper} {o : Oper} {a : Act} {R : Exit → Act → World → Prop}
/-- Bytes onto a row of one's own. -/
theorem wpList_joinB (hown : w.ownsRow B 5 1 v xs.length (Lib.byteCells xs)) (hgd : o.guard = none) (s x : Operand)
    (ho : o.op = .call { callee := .builtin .append, args := #[s, x], argTypes := #[22, 22] }) (hs : a.eval s = v) (A : Option Addr) (n c : Nat) (hx : a.eval x = .slice A n c) (ys : List UInt8)
    (hy : Bys w (.slice A n c) ys) (hl : xs.length + n < 100000000000) (hB : B ≤ w.heap.size)
    (hK : ∀ v' w', w'.ownsRow B 5 1 v' (xs ++ ys).length (Lib.byteCells (xs ++ ys)) → w.grownBy w' v.ownBlock → wpList Tryz.prog ops R rest (a.put o.dst v') w') : wpList Tryz.prog ops R (o :: rest) a w := by
  obtain ⟨i0, hi, hz0, hz1, hz2⟩ := info_three info_byte
  have hn := hy.len_
  refine wpList_append_sl hgd s x 22 ho B 5 i0 _ Tryz.underlying22 hi hz0 hz1 hz2 rfl v xs.length _ hs hown w.heap.size A n c ys hx hy.sl_ (by omega) hB ?_
  intro v' w' h1 h2
  refine hK v' w' ?_ h2
  rw [List.length_append, show Lib.byteCells (xs ++ ys) = Lib.byteCells xs ++ Lib.byteCells ys from by simp [Lib.byteCells]]
  exact h1
end
/-- What one owns, grown: what lay there has not changed. -/
theorem below_own {w w' : World} {B e sz n : Nat} {v : Value} {xs : List Value} {b : Nat} (h : w.ownsRow B e sz v n xs) (hg : w.grownBy w' v.ownBlock) (hb : b ≤ B) (hB : b ≤ w.heap.size) : Below b w w' :=
  (Below.refl b w).grown hg hB fun k hk => Nat.le_trans hb (h.lt k hk).1

end Go.Proofs.YtfblgkcipnkhaaaGreatDoor.pk

/-
  Plain mathematics of layer 9: a log of entries, and what the document says of it, as functions on lists.
-/
namespace Go.Proofs.YtfblgkcipnkhaaaGreatDoor.pk
open Go

/-- An entry, a log. -/
structure En where
  index : Int
  term : Int
  kind : Int
  data : List UInt8
structure Lg where
  base : Int
  term : Int
  l : List En
def ze : En := ⟨0, 0, 0, []⟩
def zl : Lg := ⟨0, 0, []⟩

def topI : Int := 1099511627776
/-- May the entry stand behind an index and a term? -/
def goodE (i t : Int) (e : En) : Bool := decide (e.index = i + 1 ∧ 1 ≤ e.index ∧ e.index ≤ 1099511627776 ∧ 1 ≤ e.term ∧ t ≤ e.term ∧ e.term ≤ 1099511627776 ∧ 0 ≤ e.kind ∧ e.kind ≤ 2 ∧ e.data.length ≤ 4096)
def behindE : Int → Int → List En → Bool
  | _, _, [] => true
  | i, t, e :: r => goodE i t e && behindE (i + 1) e.term r
def headE (l : Lg) : Bool := decide (0 ≤ l.base ∧ l.base ≤ 1099511627776 ∧ 0 ≤ l.term ∧ l.term ≤ 1099511627776 ∧ (l.base = 0 ↔ l.term = 0) ∧ l.l.length ≤ 4096)
def mayE (l : Lg) : Bool := headE l && behindE l.base l.term l.l
/-- The last entry's index and term, of a log that may be. -/
def endE (l : Lg) : Int × Int := match l.l.getLast? with
  | none => (l.base, l.term)
  | some e => (e.index, e.term)
def lastE (l : Lg) : Int × Int := if mayE l = true then endE l else (0, 0)
def termE (l : Lg) (i : Int) : Int × Nat :=
  if mayE l = false then (0, 1) else if i < 0 ∨ (endE l).1 < i then (0, 8) else if i < l.base then (0, 22) else if i = l.base then (l.term, 0) else ((l.l.getD (i - l.base - 1).toNat ze).term, 0)
def atE (l : Lg) (i : Int) : En × Nat :=
  if mayE l = false then (ze, 1) else if i < 1 ∨ (endE l).1 < i then (ze, 8) else if i ≤ l.base then (ze, 22) else (l.l.getD (i - l.base - 1).toNat ze, 0)
def fromE (l : Lg) (i most : Int) : List En := if mayE l = false ∨ i ≤ l.base then [] else (l.l.drop (i - l.base - 1).toNat).take most.toNat
def compactE (l : Lg) (i : Int) : Lg × Nat := if (termE l i).2 = 0 then (⟨i, (termE l i).1, l.l.drop (i - l.base).toNat⟩, 0) else (zl, (termE l i).2)
def newerE (l : Lg) (i t : Int) : Bool := mayE l && decide ((lastE l).2 < t ∨ t = (lastE l).2 ∧ (lastE l).1 ≤ i)
def addE (l : Lg) (t k : Int) (d : List UInt8) : Lg × Nat :=
  if mayE l = false ∨ t < (endE l).2 ∨ t < 1 ∨ 1099511627776 < t ∨ k < 0 ∨ 2 < k ∨ (endE l).1 = 1099511627776 then (zl, 1) else if 4096 < d.length then (zl, 2) else if 4095 < l.l.length then (zl, 10)
  else (⟨l.base, l.term, l.l ++ [⟨(endE l).1 + 1, t, k, d⟩]⟩, 0)
/-- Entries over others: as long as they are of the same terms the first ones stay. -/
def overE : List En → List En → List En
  | old, [] => old
  | [], e :: r => e :: r
  | o :: old, e :: r => if o.term = e.term then o :: overE old r else e :: r
/-- The log behind a merge, of logs that are not long; none: it was not merged. -/
def mergedE (l : Lg) (i : Int) (more : List En) : Lg := ⟨l.base, l.term, l.l.take (i - l.base).toNat ++ overE (l.l.drop (i - l.base).toNat) (more.drop (l.base - i).toNat)⟩
def mergeE (l : Lg) (i t : Int) (more : List En) : Option (Lg × Int) :=
  if mayE l = false ∨ i < 0 ∨ behindE i t more = false ∨ (endE l).1 < i ∨ (l.base < i ∧ (l.l.getD (i - l.base - 1).toNat ze).term ≠ t) then none
  else if mayE (mergedE l i more) = true then some (mergedE l i more, max (i + more.length) l.base) else none

theorem goodE_iff {i t : Int} {e : En} : goodE i t e = true ↔ e.index = i + 1 ∧ 1 ≤ e.index ∧ e.index ≤ 1099511627776 ∧ 1 ≤ e.term ∧ t ≤ e.term ∧ e.term ≤ 1099511627776 ∧ 0 ≤ e.kind ∧ e.kind ≤ 2 ∧ e.data.length ≤ 4096 := by
  unfold goodE; exact decide_eq_true_iff
theorem headE_iff {l : Lg} : headE l = true ↔ 0 ≤ l.base ∧ l.base ≤ 1099511627776 ∧ 0 ≤ l.term ∧ l.term ≤ 1099511627776 ∧ (l.base = 0 ↔ l.term = 0) ∧ l.l.length ≤ 4096 := by
  unfold headE; exact decide_eq_true_iff
theorem mayE_iff {l : Lg} : mayE l = true ↔ headE l = true ∧ behindE l.base l.term l.l = true := by
  unfold mayE; rw [Bool.and_eq_true]
theorem behindE_cons {i t : Int} {e : En} {r : List En} : behindE i t (e :: r) = true ↔ goodE i t e = true ∧ behindE (i + 1) e.term r = true := by
  show (goodE i t e && behindE (i + 1) e.term r) = true ↔ _
  rw [Bool.and_eq_true]
theorem behindE_at : ∀ {l : List En} {i t : Int}, behindE i t l = true → ∀ (j : Nat) (h : j < l.length), l[j].index = i + 1 + j ∧ 1 ≤ l[j].index ∧ l[j].index ≤ 1099511627776 ∧ 1 ≤ l[j].term ∧ t ≤ l[j].term ∧ l[j].term ≤ 1099511627776 ∧ 0 ≤ l[j].kind ∧ l[j].kind ≤ 2 ∧ l[j].data.length ≤ 4096
  | e :: r, i, t, h, 0, _ => by
    have h1 := goodE_iff.1 (behindE_cons.1 h).1
    simp only [List.getElem_cons_zero]
    refine ⟨by omega, h1.2⟩
  | e :: r, i, t, h, j + 1, hj => by
    have h1 := goodE_iff.1 (behindE_cons.1 h).1
    have h2 := behindE_at (behindE_cons.1 h).2 j (by simpa using hj)
    simp only [List.getElem_cons_succ]
    refine ⟨by omega, h2.2.1, h2.2.2.1, h2.2.2.2.1, by omega, h2.2.2.2.2.2⟩
theorem behindE_append : ∀ {a b : List En} {i t : Int}, behindE i t (a ++ b) = true ↔ behindE i t a = true ∧ behindE (i + a.length) (match a.getLast? with | none => t | some e => e.term) b = true
  | [], b, i, t => by simp [behindE]
  | e :: r, b, i, t => by
    rw [List.cons_append, behindE_cons, behindE_cons, behindE_append (a := r) (b := b), and_assoc]
    have e1 : i + 1 + (r.length : Int) = i + ((e :: r).length : Int) := by rw [List.length_cons]; omega
    have e2 : (match r.getLast? with | none => e.term | some x => x.term) = (match (e :: r).getLast? with | none => t | some x => x.term) := by
      cases r with
      | nil => rfl
      | cons x r => simp [List.getLast?_cons]
    rw [e1, e2]
/-- The last index of a log that may be. -/
theorem endE_index {l : Lg} (h : mayE l = true) : (endE l).1 = l.base + l.l.length := by
  have hb := (mayE_iff.1 h).2
  unfold endE
  cases hg : l.l.getLast? with
  | none => rw [List.getLast?_eq_none_iff] at hg; simp [hg]
  | some e =>
    simp only
    have hne : l.l ≠ [] := by intro hn; rw [hn] at hg; cases hg
    have hl : 0 < l.l.length := List.length_pos_iff.2 hne
    rw [List.getLast?_eq_getElem?, List.getElem?_eq_some_iff] at hg
    obtain ⟨hj, rfl⟩ := hg
    have := (behindE_at hb (l.l.length - 1) hj).1
    omega
theorem overE_nil (old : List En) : overE old [] = old := by cases old <;> rfl
theorem overE_cons (o e : En) (old r : List En) : overE (o :: old) (e :: r) = if o.term = e.term then o :: overE old r else e :: r := rfl
/-- Each of the new ones stands at its place, with its term. -/
theorem overE_new : ∀ (old new : List En) (j : Nat) (h : j < new.length), ∃ x, (overE old new)[j]? = some x ∧ x.term = new[j].term
  | _, [], j, h => by simp at h
  | [], e :: r, j, h => ⟨_, List.getElem?_eq_getElem h, rfl⟩
  | o :: old, e :: r, j, h => by
    rw [overE_cons]
    by_cases ht : o.term = e.term
    · rw [if_pos ht]
      cases j with
      | zero => exact ⟨o, rfl, ht⟩
      | succ j =>
        obtain ⟨x, h', hx⟩ := overE_new old r j (by simpa using h)
        exact ⟨x, by simpa using h', by simpa using hx⟩
    · rw [if_neg ht]
      exact ⟨_, List.getElem?_eq_getElem h, rfl⟩
theorem overE_len (old new : List En) : new.length ≤ (overE old new).length := by
  by_cases h : new.length = 0
  · omega
  · obtain ⟨x, hx, -⟩ := overE_new old new (new.length - 1) (by omega)
    have := (List.getElem?_eq_some_iff.1 hx).1
    omega
/-- Laid over again they change nothing more. -/
theorem overE_again : ∀ (old new : List En), overE (overE old new) new = overE old new
  | old, [] => by rw [overE_nil, overE_nil]
  | [], e :: r => by
    show overE (e :: r) (e :: r) = e :: r
    have : ∀ l : List En, overE l l = l := by
      intro l
      induction l with
      | nil => rfl
      | cons x l ih => unfold overE; rw [if_pos rfl, ih]
    exact this _
  | o :: old, e :: r => by
    have hl : ∀ l : List En, overE l l = l := by
      intro l
      induction l with
      | nil => rfl
      | cons x l ih => unfold overE; rw [if_pos rfl, ih]
    by_cases ht : o.term = e.term
    · have e1 : overE (o :: old) (e :: r) = o :: overE old r := by
        show (if o.term = e.term then _ else _) = _
        rw [if_pos ht]
      rw [e1]
      show (if o.term = e.term then o :: overE (overE old r) r else _) = _
      rw [if_pos ht, overE_again old r]
    · have e1 : overE (o :: old) (e :: r) = e :: r := by
        show (if o.term = e.term then _ else _) = _
        rw [if_neg ht]
      rw [e1]
      exact hl _

theorem merge_some {l m : Lg} {i t n : Int} {more : List En} (h : mergeE l i t more = some (m, n)) :
    mayE l = true ∧ 0 ≤ i ∧ behindE i t more = true ∧ i ≤ l.base + l.l.length ∧ (l.base < i → (l.l.getD (i - l.base - 1).toNat ze).term = t) ∧ m = mergedE l i more ∧ mayE m = true ∧ n = max (i + more.length) l.base := by
  unfold mergeE at h
  split at h
  · cases h
  · rename_i hc
    split at h
    · rename_i hm
      simp only [Option.some.injEq, Prod.mk.injEq] at h
      obtain ⟨rfl, rfl⟩ := h
      have h1 : mayE l = true := by
        cases hx : mayE l with
        | true => rfl
        | false => exact absurd (Or.inl hx) hc
      have h2 : ¬ i < 0 := fun h => hc (Or.inr (Or.inl h))
      have h3 : behindE i t more = true := by
        cases hx : behindE i t more with
        | true => rfl
        | false => exact absurd (Or.inr (Or.inr (Or.inl hx))) hc
      have h4 : ¬ (endE l).1 < i := fun h => hc (Or.inr (Or.inr (Or.inr (Or.inl h))))
      rw [endE_index h1] at h4
      refine ⟨h1, by omega, h3, by omega, fun hb => ?_, rfl, hm, rfl⟩
      exact Classical.byContradiction fun hn => hc (Or.inr (Or.inr (Or.inr (Or.inr ⟨hb, hn⟩))))
    · cases h

/-- The log behind a merge has the leader's entries. -/
theorem merge_terms {l m : Lg} {i t n : Int} {more : List En} (h : mergeE l i t more = some (m, n)) {j : Nat} (hj : j < more.length) (hb : l.base < more[j].index) : termE m more[j].index = (more[j].term, 0) := by
  obtain ⟨h1, h2, h3, h4, h5, rfl, h7, rfl⟩ := merge_some h
  have hx := behindE_at h3 j hj
  have hh := headE_iff.1 (mayE_iff.1 h1).1
  have hlen : (mergedE l i more).l.length = (i - l.base).toNat + (overE (l.l.drop (i - l.base).toNat) (more.drop (l.base - i).toNat)).length := by
    show (_ ++ _ : List En).length = _
    rw [List.length_append, List.length_take, Nat.min_eq_left (by omega)]
  have hjd : j - (l.base - i).toNat < (more.drop (l.base - i).toNat).length := by rw [List.length_drop]; omega
  obtain ⟨x, hx0, ht⟩ := overE_new (l.l.drop (i - l.base).toNat) (more.drop (l.base - i).toNat) _ hjd
  have h' := (List.getElem?_eq_some_iff.1 hx0).1
  have hb' : (mergedE l i more).base = l.base := rfl
  unfold termE
  rw [h7, endE_index h7, hb']
  rw [if_neg (by simp), if_neg (by omega), if_neg (by omega), if_neg (by omega)]
  congr 1
  have e1 : (more[j].index - l.base - 1).toNat = (l.l.take (i - l.base).toNat).length + (j - (l.base - i).toNat) := by rw [List.length_take]; omega
  have e2 : (mergedE l i more).l.getD (more[j].index - l.base - 1).toNat ze = x := by
    rw [e1]
    show (_ ++ _ : List En).getD _ ze = _
    rw [List.getD, List.getElem?_append_right (by omega), Nat.add_sub_cancel_left, hx0]
    rfl
  rw [e2, ht]
  simp only [List.getElem_drop]
  congr 2
  omega
/-- Merged again it is the same. -/
theorem merge_again {l m : Lg} {i t n : Int} {more : List En} (h : mergeE l i t more = some (m, n)) : mergeE m i t more = some (m, n) := by
  obtain ⟨h1, h2, h3, h4, h5, rfl, h7, rfl⟩ := merge_some h
  have hlen : (l.l.take (i - l.base).toNat).length = (i - l.base).toNat := by rw [List.length_take]; omega
  have hsame : mergedE (mergedE l i more) i more = mergedE l i more := by
    show (⟨l.base, l.term, (l.l.take (i - l.base).toNat ++ overE (l.l.drop (i - l.base).toNat) (more.drop (l.base - i).toNat)).take (i - l.base).toNat ++ overE ((l.l.take (i - l.base).toNat ++ overE (l.l.drop (i - l.base).toNat) (more.drop (l.base - i).toNat)).drop (i - l.base).toNat) (more.drop (l.base - i).toNat)⟩ : Lg) = ⟨l.base, l.term, l.l.take (i - l.base).toNat ++ overE (l.l.drop (i - l.base).toNat) (more.drop (l.base - i).toNat)⟩
    congr 1
    rw [List.take_left' hlen, List.drop_left' hlen, overE_again]
  have hend : ¬ (endE (mergedE l i more)).1 < i := by
    rw [endE_index h7]
    have : (mergedE l i more).l.length = (l.l.take (i - l.base).toNat ++ overE (l.l.drop (i - l.base).toNat) (more.drop (l.base - i).toNat)).length := rfl
    rw [this, List.length_append, hlen]
    have : (mergedE l i more).base = l.base := rfl
    omega
  have hterm : ¬ ((mergedE l i more).base < i ∧ ((mergedE l i more).l.getD (i - (mergedE l i more).base - 1).toNat ze).term ≠ t) := by
    rintro ⟨hb, hn⟩
    have hb' : l.base < i := hb
    apply hn
    rw [← h5 hb']
    have : (mergedE l i more).l = l.l.take (i - l.base).toNat ++ overE (l.l.drop (i - l.base).toNat) (more.drop (l.base - i).toNat) := rfl
    rw [this, show (mergedE l i more).base = l.base from rfl, List.getD, List.getD, List.getElem?_append_left (by omega), List.getElem?_take, if_pos (by omega)]
  unfold mergeE
  rw [if_neg (by
    rintro (hc | hc | hc | hc | hc)
    · rw [h7] at hc; cases hc
    · omega
    · rw [h3] at hc; cases hc
    · exact hend hc
    · exact hterm hc), hsame, if_pos h7]
  rfl

/-- A log of which the first entries are let go. -/
theorem compact_may {l : Lg} {i : Int} (h : mayE l = true) (hi : l.base ≤ i) (hn : i ≤ l.base + l.l.length) (m : Lg) (hm : m = (compactE l i).1) :
    compactE l i = (m, 0) ∧ m.base = i ∧ mayE m = true ∧ endE m = endE l ∧ ∀ k : Int, i ≤ k → k ≤ l.base + l.l.length → termE m k = termE l k ∧ (termE l k).2 = 0 := by
  have hh := headE_iff.1 (mayE_iff.1 h).1
  have hb := (mayE_iff.1 h).2
  have ht0 : (termE l i).2 = 0 := by
    unfold termE
    rw [h, endE_index h, if_neg (by simp), if_neg (by omega), if_neg (by omega)]
    split <;> rfl
  have hc : compactE l i = (⟨i, (termE l i).1, l.l.drop (i - l.base).toNat⟩, 0) := by unfold compactE; rw [if_pos ht0]
  rw [hc] at hm
  subst hm
  have hsplit := List.take_append_drop (i - l.base).toNat l.l
  have hb2 := hb
  rw [← hsplit, behindE_append] at hb2
  obtain ⟨ha1, ha2⟩ := hb2
  have htl : (l.l.take (i - l.base).toNat).length = (i - l.base).toNat := by rw [List.length_take]; omega
  have hti : (termE l i).1 = match (l.l.take (i - l.base).toNat).getLast? with | none => l.term | some e => e.term := by
    unfold termE
    rw [h, endE_index h, if_neg (by simp), if_neg (by omega), if_neg (by omega)]
    by_cases he : i = l.base
    · rw [if_pos he, he]; simp
    · rw [if_neg he]
      rw [List.getLast?_eq_getElem?, htl, List.getElem?_take, if_pos (by omega), List.getD]
      have e1 : (i - l.base - 1).toNat = (i - l.base).toNat - 1 := by omega
      rw [e1, List.getElem?_eq_getElem (by omega)]
      rfl
  have hbase : l.base + ((l.l.take (i - l.base).toNat).length : Int) = i := by rw [htl]; omega
  rw [hbase, ← hti] at ha2
  have htr : 0 ≤ (termE l i).1 ∧ (termE l i).1 ≤ 1099511627776 ∧ (i = 0 ↔ (termE l i).1 = 0) := by
    rw [hti, List.getLast?_eq_getElem?, htl]
    by_cases he : i = l.base
    · have : (i - l.base).toNat = 0 := by omega
      rw [this]
      simp only [List.take_zero, List.getElem?_nil]
      omega
    · have hlt : (i - l.base).toNat - 1 < l.l.length := by omega
      rw [List.getElem?_take, if_pos (by omega), List.getElem?_eq_getElem hlt]
      have := behindE_at hb _ hlt
      simp only
      omega
  have hmay : mayE ⟨i, (termE l i).1, l.l.drop (i - l.base).toNat⟩ = true := by
    refine mayE_iff.2 ⟨headE_iff.2 ⟨?_, ?_, htr.1, htr.2.1, htr.2.2, ?_⟩, ha2⟩
    · simp only; omega
    · show i ≤ _
      by_cases he : i = l.base
      · omega
      · have hlt : (i - l.base).toNat - 1 < l.l.length := by omega
        have := behindE_at hb _ hlt
        omega
    · show (l.l.drop _).length ≤ _
      rw [List.length_drop]; omega
  have hend : endE ⟨i, (termE l i).1, l.l.drop (i - l.base).toNat⟩ = endE l := by
    unfold endE
    simp only
    by_cases hz : (i - l.base).toNat < l.l.length
    · have : (l.l.drop (i - l.base).toNat).getLast? = l.l.getLast? := by
        rw [List.getLast?_drop, if_neg (by omega)]
      rw [this]
      cases hg : l.l.getLast? with
      | none => rw [List.getLast?_eq_none_iff] at hg; rw [hg] at hz; simp at hz
      | some e => rfl
    · rw [List.drop_eq_nil_of_le (by omega), hti]
      have hall : l.l.take (i - l.base).toNat = l.l := List.take_of_length_le (by omega)
      rw [hall]
      cases hg : l.l.getLast? with
      | none =>
        rw [List.getLast?_eq_none_iff] at hg
        rw [hg] at hn
        simp at hn ⊢
        omega
      | some e =>
        have := endE_index h
        unfold endE at this
        rw [hg] at this
        simp only at this ⊢
        rw [this]
        simp only [List.getLast?_nil, Prod.mk.injEq, and_true]
        omega
  refine ⟨hc, rfl, hmay, hend, fun k h1 h2 => ?_⟩
  have hkt : termE ⟨i, (termE l i).1, l.l.drop (i - l.base).toNat⟩ k = termE l k := by
    have hl : ∀ x : Int, x = (termE l i).1 → termE ⟨i, x, l.l.drop (i - l.base).toNat⟩ k = if k = i then (x, 0) else (((l.l.drop (i - l.base).toNat).getD (k - i - 1).toNat ze).term, 0) := by
      intro x hx
      unfold termE
      subst hx
      rw [hmay, hend, endE_index h, if_neg (by simp), if_neg (by omega), if_neg (by simp only; omega)]
    rw [hl _ rfl]
    have hr : termE l k = if k = l.base then (l.term, 0) else ((l.l.getD (k - l.base - 1).toNat ze).term, 0) := by
      unfold termE
      rw [h, endE_index h, if_neg (by simp), if_neg (by omega), if_neg (by omega)]
    by_cases he : k = i
    · rw [if_pos he, he]
      refine Prod.ext rfl ht0.symm
    · rw [if_neg he, hr, if_neg (by omega)]
      simp only [List.getD, List.getElem?_drop]
      congr 4
      omega
  refine ⟨hkt, ?_⟩
  unfold termE
  rw [h, endE_index h, if_neg (by simp), if_neg (by omega), if_neg (by omega)]
  split <;> rfl

theorem termE_bound {l : Lg} {i : Int} (h : (termE l i).2 = 0) : mayE l = true ∧ l.base ≤ i ∧ i ≤ l.base + l.l.length ∧ 0 ≤ i := by
  unfold termE at h
  by_cases c0 : mayE l = false
  · rw [if_pos c0] at h; cases h
  · have hm : mayE l = true := by cases hx : mayE l; exact absurd hx c0; rfl
    rw [if_neg c0] at h
    by_cases c1 : i < 0 ∨ (endE l).1 < i
    · rw [if_pos c1] at h; cases h
    · rw [if_neg c1] at h
      have he := endE_index hm
      by_cases c2 : i < l.base
      · rw [if_pos c2] at h; cases h
      · exact ⟨hm, by omega, by omega, by omega⟩

end Go.Proofs.YtfblgkcipnkhaaaGreatDoor.pk

/-
  Entries and logs in memory; a row of entries of one's own.
-/
namespace Go.Proofs.YtfblgkcipnkhaaaGreatDoor.pk
open Go Go.RowKit
set_option maxRecDepth 100000

/-- A cut 's[k:]' of a row. -/
theorem RowT.cut {w : World} {T : Nat → Prop} {sz : Nat} {A : Option Addr} {n n' c : Nat} {cs : List Value} (h : RowT w T sz (.slice A n' c) n cs) {k : Nat} (hk : k ≤ n) :
    RowT w T sz (.slice (if c = k then A else A.map (·.add (k * sz))) (n - k) (c - k)) (n - k) (cs.drop (k * sz)) := by
  obtain ⟨h0, A', c', hv, h1, h2, h3⟩ := h
  injection hv with e1 e2 e3
  subst e1; subst e2; subst e3
  refine ⟨by rw [List.length_drop, h0, Nat.sub_mul], _, _, rfl, by omega, by omega, ?_⟩
  rcases h3 with h3 | ⟨b, off, rfl, hb, hc⟩
  · left; omega
  · by_cases he : k = n'
    · left; omega
    · right
      rw [if_neg (by omega)]
      refine ⟨b, off + k * sz, ?_, hb, fun j u hj => ?_⟩
      · by_cases h0 : k * sz = 0
        · rw [h0]; simp [Addr.add]
        · simp [Addr.add, h0]
      · rw [Nat.add_assoc]
        refine hc _ u ?_
        rw [List.getElem?_drop] at hj
        exact hj

/-- An entry's numbers are what int holds. -/
def En.ok (e : En) : Prop := inI e.index ∧ inI e.term ∧ inI e.kind
theorem ze_ok : ze.ok := ⟨⟨by decide, by decide⟩, ⟨by decide, by decide⟩, ⟨by decide, by decide⟩⟩
/-- An entry's four cells, from a place on. -/
def EnC (w : World) (T : Nat → Prop) (cs : List Value) (o : Nat) (e : En) : Prop :=
  cs[o]? = some (.int .i64 e.index) ∧ cs[o + 1]? = some (.int .i64 e.term) ∧ cs[o + 2]? = some (.int .i64 e.kind) ∧ ∃ u, cs[o + 3]? = some u ∧ SlT w T u e.data
theorem EnC.move {w w' : World} {T T' : Nat → Prop} {cs : List Value} {o : Nat} {e : En} (h : EnC w T cs o e) (hk : ∀ k, T k → k < w.heap.size → w'.heap[k]? = w.heap[k]?) (ht : ∀ k, T k → T' k) : EnC w' T' cs o e := by
  obtain ⟨h0, h1, h2, u, h3, h4⟩ := h
  exact ⟨h0, h1, h2, u, h3, (h4.kept hk).mono ht⟩
/-- A slice of entries. -/
def EntsT (w : World) (T : Nat → Prop) (v : Value) (l : List En) : Prop := ∃ cs, RowT w T 4 v l.length cs ∧ ∀ j (h : j < l.length), EnC w T cs (j * 4) l[j]
theorem EntsT.move {w w' : World} {T T' : Nat → Prop} {v : Value} {l : List En} (h : EntsT w T v l) (hk : ∀ k, T k → k < w.heap.size → w'.heap[k]? = w.heap[k]?) (ht : ∀ k, T k → T' k) : EntsT w' T' v l := by
  obtain ⟨cs, hr, he⟩ := h
  exact ⟨cs, (hr.kept hk).mono ht, fun j hj => (he j hj).move hk ht⟩
def Ents (w : World) (v : Value) (l : List En) : Prop := EntsT w (fun k => k < w.heap.size) v l ∧ ∀ e ∈ l, e.ok
/-- Not many, and none of them long. -/
def SmallE (k d : Nat) (l : List En) : Prop := l.length ≤ k ∧ ∀ e ∈ l, e.data.length ≤ d

theorem Ents.below {w w' : World} {v : Value} {l : List En} (h : Ents w v l) (hb : Below w.heap.size w w') : Ents w' v l :=
  ⟨h.1.move (fun k hk _ => hb.block k hk) fun _ hk => Nat.lt_of_lt_of_le hk hb.size, h.2⟩
theorem Ents.nil_ (w : World) : Ents w (.slice none 0 0) [] := ⟨⟨[], RowT.nil_ _ _ _, fun j h => by simp at h⟩, fun e he => by cases he⟩
theorem Ents.form {w : World} {v : Value} {l : List En} (h : Ents w v l) : ∃ A c, v = .slice A l.length c ∧ l.length ≤ c ∧ c ≤ 9223372036854775807 := by
  obtain ⟨⟨cs, h, _⟩, _⟩ := h
  exact h.form
theorem Ents.len_ {w : World} {A : Option Addr} {n c : Nat} {l : List En} (h : Ents w (.slice A n c) l) : n = l.length ∧ n ≤ c ∧ c ≤ 9223372036854775807 := by
  obtain ⟨A', c', hv, h1, h2⟩ := h.form
  injection hv with e1 e2 e3
  subst e2; subst e3
  exact ⟨rfl, h1, h2⟩
theorem Ents.at_ {w : World} {A : Option Addr} {m c : Nat} {l : List En} (h : Ents w (.slice A m c) l) (i : Nat) (hi : i < l.length) :
    ∃ b off Ad cd, A = some ⟨b, off, none⟩ ∧ b < w.heap.size ∧ l[i].ok ∧ w.cell? ⟨b, off + i * 4, none⟩ = some (.int .i64 l[i].index) ∧ w.cell? ⟨b, off + i * 4 + 1, none⟩ = some (.int .i64 l[i].term) ∧
      w.cell? ⟨b, off + i * 4 + 2, none⟩ = some (.int .i64 l[i].kind) ∧ w.cell? ⟨b, off + i * 4 + 3, none⟩ = some (.slice Ad l[i].data.length cd) ∧ Bys w (.slice Ad l[i].data.length cd) l[i].data := by
  obtain ⟨⟨cs, hr, he⟩, hok⟩ := h
  obtain ⟨-, -, -, b, off, rfl, hb, hc⟩ := hr.at_ (by omega)
  obtain ⟨h0, h1, h2, u, hu, hs⟩ := he i hi
  have hs' := hs
  obtain ⟨Ad, cd, rfl, _⟩ := hs
  exact ⟨b, off, Ad, cd, rfl, hb, hok _ (List.getElem_mem hi), hc _ _ h0, hc _ _ h1, hc _ _ h2, hc _ _ hu, hs'⟩
theorem Ents.drop_ {w : World} {A : Option Addr} {m c : Nat} {l : List En} (h : Ents w (.slice A m c) l) {k : Nat} (hk : k ≤ m) : Ents w (.slice (if c = k then A else A.map (·.add (k * 4))) (m - k) (c - k)) (l.drop k) := by
  have hl := h.len_.1
  subst hl
  obtain ⟨⟨cs, hr, he⟩, hok⟩ := h
  refine ⟨⟨cs.drop (k * 4), by rw [List.length_drop]; exact hr.cut hk, fun j hj => ?_⟩, fun e he => hok e (List.mem_of_mem_drop he)⟩
  rw [List.length_drop] at hj
  obtain ⟨h0, h1, h2, u, h3, h4⟩ := he (k + j) (by omega)
  simp only [EnC, List.getElem?_drop, List.getElem_drop]
  have e0 : k * 4 + j * 4 = (k + j) * 4 := by omega
  refine ⟨by rw [e0]; exact h0, ?_, ?_, u, ?_, h4⟩
  · rw [← Nat.add_assoc, e0]; exact h1
  · rw [← Nat.add_assoc, e0]; exact h2
  · rw [← Nat.add_assoc, e0]; exact h3
/-- Entries in memory that is new behind a world. -/
def FEnts (w0 w : World) (v : Value) (l : List En) : Prop := EntsT w (fun k => w0.heap.size ≤ k ∧ k < w.heap.size) v l ∧ ∀ e ∈ l, e.ok
theorem FEnts.ents {w0 w : World} {v : Value} {l : List En} (h : FEnts w0 w v l) : Ents w v l := ⟨h.1.move (fun _ _ _ => rfl) fun _ hk => hk.2, h.2⟩
theorem Ents.at_get {w : World} {v : Value} {l : List En} (h : Ents w v l) (j : Nat) : (l.getD j ze).ok := by
  by_cases hj : j < l.length
  · rw [List.getD, List.getElem?_eq_getElem hj]; exact h.2 _ (List.getElem_mem hj)
  · rw [List.getD, List.getElem?_eq_none (by omega)]; exact ze_ok
theorem SmallE.get {k d : Nat} {l : List En} (h : SmallE k d l) (j : Nat) : (l.getD j ze).data.length ≤ d := by
  by_cases hj : j < l.length
  · rw [List.getD, List.getElem?_eq_getElem hj]; exact h.2 _ (List.getElem_mem hj)
  · rw [List.getD, List.getElem?_eq_none (by omega)]; exact Nat.zero_le _

/-- A row of the call's own of entries, whose bytes lie in other blocks of Q. -/
def OwnE (w : World) (B : Nat) (Q : Nat → Prop) (t : TypeId) (v : Value) (l : List En) : Prop :=
  ∃ cs, w.ownsRow B t 4 v l.length cs ∧ ∀ j (h : j < l.length), EnC w (fun k => Q k ∧ k < w.heap.size ∧ v.ownBlock ≠ some k) cs (j * 4) l[j]
section
variable {w w' : World} {B : Nat} {Q : Nat → Prop} {t : TypeId} {v : Value} {l : List En}
theorem OwnE.nil_ (w : World) (B : Nat) (Q : Nat → Prop) (t : TypeId) : OwnE w B Q t (.slice none 0 0) [] := ⟨[], World.ownsRow_nil _ _ _ _, fun j h => by simp at h⟩
theorem OwnE.lt (h : OwnE w B Q t v l) (g : Nat) (hg : v.ownBlock = some g) : B ≤ g ∧ g < w.heap.size := by
  obtain ⟨cs, h, _⟩ := h
  exact h.lt g hg
theorem OwnE.kept (h : OwnE w B Q t v l) (h1 : ∀ k, k < w.heap.size → (Q k ∨ v.ownBlock = some k) → w'.heap[k]? = w.heap[k]?) (hs : w.heap.size ≤ w'.heap.size) : OwnE w' B Q t v l := by
  obtain ⟨cs, ho, he⟩ := h
  refine ⟨cs, ?_, fun j hj => ?_⟩
  · have hlt := ho.lt
    refine ⟨ho.1, ?_⟩
    rcases ho.2 with hn | ⟨g, cap, cur, rfl, hb, hg, rest⟩
    · exact Or.inl hn
    · exact Or.inr ⟨g, cap, cur, rfl, hb, (h1 g (hlt g rfl).2 (Or.inr rfl)).trans hg, rest⟩
  · exact (he j hj).move (fun k hk _ => h1 k hk.2.1 (Or.inl hk.1)) fun k hk => ⟨hk.1, Nat.lt_of_lt_of_le hk.2.1 hs, hk.2.2⟩
theorem OwnE.more (h : OwnE w B Q t v l) (hb : Below w.heap.size w w') : OwnE w' B Q t v l := h.kept (fun k hk _ => hb.block k hk) hb.size
/-- What it reads as. -/
theorem OwnE.ents (h : OwnE w B Q t v l) : EntsT w (fun k => k < w.heap.size) v l := by
  have hlt := h.lt
  obtain ⟨cs, ho, he⟩ := h
  exact ⟨cs, RowT.of_own ho _ fun g hg => (hlt g hg).2, fun j hj => (he j hj).move (fun _ _ _ => rfl) fun _ hk => hk.2.1⟩

theorem OwnE.form (h : OwnE w B Q t v l) {j : Nat} (hj : l.length = j) : ∃ A c, v = .slice A j c ∧ j ≤ c ∧ c ≤ 9223372036854775807 := by
  subst hj
  obtain ⟨cs, ho, -⟩ := h
  exact (RowT.of_own ho (fun _ => True) fun _ _ => trivial).form
theorem OwnE.entsT (h : OwnE w B Q t v l) (T : Nat → Prop) (h1 : ∀ k, Q k → k < w.heap.size → T k) (h2 : ∀ k, B ≤ k → k < w.heap.size → T k) : EntsT w T v l := by
  have hlt := h.lt
  obtain ⟨cs, ho, he⟩ := h
  exact ⟨cs, RowT.of_own ho _ fun g hg => h2 g (hlt g hg).1 (hlt g hg).2, fun j hj => (he j hj).move (fun _ _ _ => rfl) fun _ hk => h1 _ hk.1 hk.2.1⟩
/-- One entry more. -/
theorem wpList_pushE {ops : Array Oper} {rest : List Oper} {o : Oper} {a : Act} {R : Exit → Act → World → Prop} (h : OwnE w B Q t v l) (hgd : o.guard = none) (s x : Operand) (ts : TypeId)
    (hts : Tryz.prog.underlying ts = some (.slice t)) (hi : (Tryz.prog.info? t).map (fun i => (i.zero, i.size, i.bytes)) = some (some (.agg #[.int .i64 0, .int .i64 0, .int .i64 0, .slice none 0 0]), 4, 48))
    (ho : o.op = .call { callee := .builtin .append, args := #[s, x], argTypes := #[ts, ts] }) (hs : a.eval s = v) (g : Nat) (e : En) (A : Option Addr) (c : Nat) (hx : a.eval x = .slice (some ⟨g, 0, none⟩) 1 1)
    (hg : w.heap[g]? = some (.cells #[.int .i64 e.index, .int .i64 e.term, .int .i64 e.kind, .slice A e.data.length c] t (0, 0))) (hy : SlT w (fun k => Q k ∧ k < w.heap.size ∧ v.ownBlock ≠ some k) (.slice A e.data.length c) e.data) (hl : l.length < 100000000) (hB : B ≤ w.heap.size)
    (hK : ∀ v' w', OwnE w' B Q t v' (l ++ [e]) → w.grownBy w' v.ownBlock → (v'.ownBlock = v.ownBlock ∨ v'.ownBlock = some w.heap.size) → wpList Tryz.prog ops R rest (a.put o.dst v') w') : wpList Tryz.prog ops R (o :: rest) a w :=
  wpList_plain hgd fun K hK' => by
    obtain ⟨i0, hi, hz0, hz1, hz2⟩ := info_parts hi
    obtain ⟨cs, hown, he⟩ := h
    obtain ⟨v', w', hrun, h2, h3, -, h4⟩ := run_append_own_at (P := Tryz.prog) w B ts o.type t i0 _ 4 48 hts hi hz0 hz1 hz2 rfl (by omega) v l.length cs hown ⟨g, 0, none⟩ 1 1 [.int .i64 e.index, .int .i64 e.term, .int .i64 e.kind, .slice A e.data.length c] rfl
      (fun j u hj => by
        rw [Lib.add_plain, Nat.zero_add, cell_of_row w g _ _ _ (0, 0) hg]
        simpa using hj) (fun u hu => by
        simp only [List.mem_cons, List.not_mem_nil, or_false] at hu
        rcases hu with rfl | rfl | rfl | rfl <;> rfl) (by simp only [maxLen]; omega) (by omega) hB
    unfold Oper.wp execOp
    simp only [ho, resolve, invoke, builtin, Sem.run_bind, Sem.run_pure, Result.andThen_ok, List.map_toArray, List.map_cons, List.map_nil, hs, hx, hrun]
    have hcl : cs.length = l.length * 4 := hown.1
    refine hK' _ _ (hK v' w' ⟨cs ++ [.int .i64 e.index, .int .i64 e.term, .int .i64 e.kind, .slice A e.data.length c], by rw [List.length_append]; exact h2, fun j hj => ?_⟩ h3 h4)
    have hT : ∀ k, (Q k ∧ k < w.heap.size ∧ v.ownBlock ≠ some k) → (Q k ∧ k < w'.heap.size ∧ v'.ownBlock ≠ some k) := fun k hk => ⟨hk.1, Nat.lt_of_lt_of_le hk.2.1 h3.size, fun e => by
      rcases h4 with h4 | h4
      · exact hk.2.2 (h4 ▸ e)
      · rw [h4] at e; injection e with e; have := hk.2.1; omega⟩
    have hblk : ∀ k, (Q k ∧ k < w.heap.size ∧ v.ownBlock ≠ some k) → k < w.heap.size → w'.heap[k]? = w.heap[k]? := fun k hk hl => h3.block k hl (fun e => hk.2.2 e.symm)
    by_cases hj' : j < l.length
    · obtain ⟨h0, h1, h2, u, hu, hsl⟩ := he j hj'
      have hlt : j * 4 + 3 < cs.length := by omega
      rw [List.getElem_append_left hj']
      exact ⟨by rw [List.getElem?_append_left (by omega)]; exact h0, by rw [List.getElem?_append_left (by omega)]; exact h1, by rw [List.getElem?_append_left (by omega)]; exact h2, u, by rw [List.getElem?_append_left (by omega)]; exact hu, (hsl.kept hblk).mono hT⟩
    · have hjl : j = l.length := by rw [List.length_append] at hj; simp at hj; omega
      subst hjl
      rw [List.getElem_append_right (Nat.le_refl _)]
      simp only [Nat.sub_self, List.getElem_cons_zero]
      refine ⟨?_, ?_, ?_, _, ?_, (hy.kept hblk).mono hT⟩
      all_goals
        rw [List.getElem?_append_right (by omega), hcl]
        simp
end
theorem info_ent : (Tryz.prog.info? 57).map (fun i => (i.zero, i.size, i.bytes)) = some (some (.agg #[.int .i64 0, .int .i64 0, .int .i64 0, .slice none 0 0]), 4, 48) := by kernel_rfl
theorem info_ref : (Tryz.prog.info? 71).map (fun i => (i.zero, i.size, i.bytes)) = some (some (.agg #[.int .i64 0, .int .i64 0, .int .i64 0, .slice none 0 0]), 4, 48) := by kernel_rfl

theorem cells3 {w : World} {b t : Nat} {v0 v1 v2 : Value} (h : w.heap[b]? = some (.cells #[v0, v1, v2] t (0, 0))) : w.cell? ⟨b, 0, none⟩ = some v0 ∧ w.cell? ⟨b, 1, none⟩ = some v1 ∧ w.cell? ⟨b, 2, none⟩ = some v2 := by
  refine ⟨?_, ?_, ?_⟩
  all_goals
    rw [cell_of_row w b _ _ _ (0, 0) h]
    rfl
theorem one_box (w : World) (a : Obj) : ∃ W g, W = w.alloc a ∧ g = w.heap.size ∧ Below w.heap.size w W ∧ W.heap[g]? = some a ∧ W.heap.size = g + 1 := ⟨_, _, rfl, rfl, below_alloc _ _, heap_alloc_new w _, World.size_alloc _ _⟩
theorem obj_lt {w : World} {g : Nat} {o : Obj} (h : w.heap[g]? = some o) : g < w.heap.size := by
  rcases Nat.lt_or_ge g w.heap.size with hlt | hge
  · exact hlt
  · rw [Array.getElem?_eq_none hge] at h; cases h
theorem two_box (w : World) (a b : Obj) : ∃ W g0 g1, W = (w.alloc a).alloc b ∧ g0 = w.heap.size ∧ g1 = g0 + 1 ∧ Below w.heap.size w W ∧ W.heap[g0]? = some a ∧ W.heap[g1]? = some b ∧ W.heap.size = g1 + 1 := by
  refine ⟨_, _, _, rfl, rfl, rfl, (below_alloc _ _).trans ((below_alloc _ _).mono (by rw [World.size_alloc]; omega)), (heap_alloc_old _ _ (by rw [World.size_alloc]; omega)).trans (heap_alloc_new w _), ?_, by simp only [World.size_alloc]⟩
  have := heap_alloc_new (w.alloc a) b
  rw [World.size_alloc] at this
  exact this
theorem cells4 {w : World} {b t : Nat} {v0 v1 v2 v3 : Value} (h : w.heap[b]? = some (.cells #[v0, v1, v2, v3] t (0, 0))) : w.cell? ⟨b, 0, none⟩ = some v0 ∧ w.cell? ⟨b, 1, none⟩ = some v1 ∧ w.cell? ⟨b, 2, none⟩ = some v2 ∧ w.cell? ⟨b, 3, none⟩ = some v3 := by
  refine ⟨?_, ?_, ?_, ?_⟩
  all_goals
    rw [cell_of_row w b _ _ _ (0, 0) h]
    rfl
/-- A struct of three, of four cells, stored. -/
def put3 (w : World) (b : Nat) (v0 v1 v2 : Value) : World := ((w.setCell ⟨b, 0, none⟩ v0).setCell ⟨b, 1, none⟩ v1).setCell ⟨b, 2, none⟩ v2
def put4 (w : World) (b : Nat) (v0 v1 v2 v3 : Value) : World := (((w.setCell ⟨b, 0, none⟩ v0).setCell ⟨b, 1, none⟩ v1).setCell ⟨b, 2, none⟩ v2).setCell ⟨b, 3, none⟩ v3
theorem put3_own {w : World} {b : Nat} {u0 u1 u2 : Value} {t : Nat} (h : w.heap[b]? = some (.cells #[u0, u1, u2] t (0, 0))) (v0 v1 v2 : Value) : (put3 w b v0 v1 v2).heap[b]? = some (.cells #[v0, v1, v2] t (0, 0)) := by
  simp [put3, World.setCell, Array.getElem?_modify, h]
theorem put4_own {w : World} {b : Nat} {u0 u1 u2 u3 : Value} {t : Nat} (h : w.heap[b]? = some (.cells #[u0, u1, u2, u3] t (0, 0))) (v0 v1 v2 v3 : Value) : (put4 w b v0 v1 v2 v3).heap[b]? = some (.cells #[v0, v1, v2, v3] t (0, 0)) := by
  simp [put4, World.setCell, Array.getElem?_modify, h]
theorem put3_below {B : Nat} {w W : World} {b : Nat} {v0 v1 v2 : Value} (h : Below B w W) (hb : B ≤ b) : Below B w (put3 W b v0 v1 v2) := ((h.setCell (show B ≤ _ from hb) _).setCell (show B ≤ _ from hb) _).setCell (show B ≤ _ from hb) _
theorem put4_below {B : Nat} {w W : World} {b : Nat} {v0 v1 v2 v3 : Value} (h : Below B w W) (hb : B ≤ b) : Below B w (put4 W b v0 v1 v2 v3) := (((h.setCell (show B ≤ _ from hb) _).setCell (show B ≤ _ from hb) _).setCell (show B ≤ _ from hb) _).setCell (show B ≤ _ from hb) _
theorem frozen_own {w : World} {b t : Nat} {vs : Array Value} (h : w.heap[b]? = some (.cells vs t (0, 0))) (j : Nat) : w.frozen? ⟨b, j, none⟩ = false := frozen_of_row w b j _ _ h

end Go.Proofs.YtfblgkcipnkhaaaGreatDoor.pk

/-
  A region that draws its order: its begin walked under a condition on the world, the rest, whose operations only read, walked once.
-/
namespace Go.Proofs.YtfblgkcipnkhaaaGreatDoor.pk
open Go

theorem wpAnyH_of_quiet {P : Program} {md : Region.Mode} {ops : Array Oper} {C S : World → Prop} {Q : Act → Prop} {Q' : Exit → Act → World → Prop} (hQ : ∀ a w, C w → Q a → Q' .normal a w) (hCS : ∀ w, C w → S w) :
    ∀ (fuel : Nat) (listed : Array Bool) (a : Act) (w : World), C w → wpAnyQ P md ops C Q fuel listed a → wpAnyH P md ops Q' S fuel listed a w
  | 0, _, _, _, hw, h => ⟨h.1, hQ _ _ hw h.2⟩
  | fuel + 1, _, _, _, hw, h => ⟨fun h0 => hQ _ _ hw (h.1 h0), fun i hi => wpOp_of_qOp hw (fun a' w' hw' hK => ⟨hCS _ hw', wpAnyH_of_quiet hQ hCS fuel _ a' w' hw' hK⟩) (h.2 i hi)⟩

/-- The rest of a region, from its n-th operation on: each is quiet. -/
theorem wpAnyH_quiet_tail {P : Program} {Q : Exit → Act → World → Prop} {S C : World → Prop} {l : List Oper} {fuel : Nat} {listed : Array Bool} {a : Act} {w : World} (n : Nat) (hf : fuel = (l.drop n).length) (hC : C w) (hCS : ∀ w, C w → S w)
    (hs : Region.noSelect l.toArray = true) (hB : Region.lexFrom .any l.toArray (l.drop n).length n listed = true) (h : wpQuiet P l.toArray C (fun a' => ∀ w', C w' → Q .normal a' w') (l.drop n) a) :
    wpAnyH P .any l.toArray Q S fuel listed a w := by
  subst hf
  exact wpAnyH_of_quiet (Q := fun a' => ∀ w', C w' → Q .normal a' w') (fun _ w' hw' h => h w' hw') hCS _ _ _ _ hC (wpAnyQ_lex hs (l.drop n) n listed a (fun j => by simp [List.getElem?_drop]) hB h)

end Go.Proofs.YtfblgkcipnkhaaaGreatDoor.pk

/-
  Plain mathematics for the package pack: what taking digits off a list of bytes gives, as functions on lists. Nothing of the program is in it.
-/
namespace Go.Proofs.YtfblgkcipnkhaaaGreatDoor.pk
open Go

/-- What the digits tell: nothing, if there are none, a needless nought, or too much. -/
def numOf (ds : List UInt8) : Option Nat :=
  if 1 < ds.length ∧ ds.head? = some 48 then none else
    match Lib.parseUintB 64 ds with
    | .ok u => some u
    | _ => none

/-- Is the byte a digit? -/
def isDg (c : UInt8) : Bool := decide (48 ≤ c.toNat ∧ c.toNat ≤ 57)

/-- Digits up to a sign: the error's number (0: none), the number, what is behind. -/
def scan (e : UInt8) (pre : List UInt8) : List UInt8 → Nat × Nat × List UInt8
  | [] => (12, 0, [])
  | c :: r =>
    if c = e then
      match numOf pre with
      | some n => (0, n, r)
      | none => (3, 0, [])
    else if isDg c = false ∨ pre.length = 20 then (3, 0, [])
    else scan e (pre ++ [c]) r

theorem scan_cons (e : UInt8) (pre : List UInt8) (c : UInt8) (r : List UInt8) : scan e pre (c :: r) =
    if c = e then
      match numOf pre with
      | some n => (0, n, r)
      | none => (3, 0, [])
    else if isDg c = false ∨ pre.length = 20 then (3, 0, [])
    else scan e (pre ++ [c]) r := rfl

/-- A letter, and digits behind it up to a sign. -/
def hd (l e : UInt8) : List UInt8 → Nat × Nat × List UInt8
  | [] => (12, 0, [])
  | c :: r => if c = l then scan e [] r else (3, 0, [])

/-- A number of a size, below 0 or not: the error's number (0: none), the number. -/
def sgn (n : Nat) (neg : Bool) : Nat × Int :=
  if neg = false then (if n ≤ 9223372036854775807 then (0, (n : Int)) else (4, 0))
  else if n = 0 then (3, 0) else if n ≤ 9223372036854775808 then (0, -(n : Int)) else (4, 0)

/-- What Uint(most), Int, Bool, Text(most) and Bytes(most) take off bytes: the error's number (0: none), the thing, what is behind. -/
def rdUint (most : Nat) (l : List UInt8) : Nat × Nat × List UInt8 :=
  match hd 110 59 l with
  | (0, n, r) => if most < n then (4, 0, []) else (0, n, r)
  | (k + 1, _, _) => (k + 1, 0, [])
def rdInt : List UInt8 → Nat × Int × List UInt8
  | [] => (12, 0, [])
  | c :: r =>
    if c = 105 then
      match scan 59 [] (if r.head? = some 45 then r.tail else r) with
      | (0, n, rest) => if (sgn n (r.head? = some 45)).1 = 0 then (0, (sgn n (r.head? = some 45)).2, rest) else ((sgn n (r.head? = some 45)).1, 0, [])
      | (k + 1, _, _) => (k + 1, 0, [])
    else (3, 0, [])
def rdBool : List UInt8 → Nat × Bool × List UInt8
  | [] => (12, false, [])
  | c :: r => if c = 121 then (0, true, r) else if c = 122 then (0, false, r) else (3, false, [])
def rdBytes (letter : UInt8) (most : Int) (l : List UInt8) : Nat × List UInt8 × List UInt8 :=
  if most < 0 then (1, [], []) else
  match hd letter 58 l with
  | (0, n, r) => if most < (n : Int) then (2, [], []) else if r.length < n then (12, [], []) else (0, r.take n, r.drop n)
  | (k + 1, _, _) => (k + 1, [], [])

theorem rdBool_cons (c : UInt8) (r : List UInt8) : rdBool (c :: r) = if c = 121 then (0, true, r) else if c = 122 then (0, false, r) else (3, false, []) := rfl

/-- What is left behind the '-', or all. -/
theorem rdInt_cons (c : UInt8) (r : List UInt8) : rdInt (c :: r) = if c = 105 then
      match scan 59 [] (if r.head? = some 45 then r.tail else r) with
      | (0, n, rest) => if (sgn n (r.head? = some 45)).1 = 0 then (0, (sgn n (r.head? = some 45)).2, rest) else ((sgn n (r.head? = some 45)).1, 0, [])
      | (k + 1, _, _) => (k + 1, 0, [])
    else (3, 0, []) := rfl

theorem rdUint_ok {most m : Nat} {l rest : List UInt8} (h : rdUint most l = (0, m, rest)) : hd 110 59 l = (0, m, rest) ∧ m ≤ most := by
  unfold rdUint at h
  split at h
  · rename_i n r hh
    by_cases hm : most < n
    · rw [if_pos hm] at h; simp at h
    · rw [if_neg hm] at h
      simp only [Prod.mk.injEq, true_and] at h
      obtain ⟨rfl, rfl⟩ := h
      exact ⟨hh, by omega⟩
  · simp at h
theorem rdUint_err {most k m : Nat} {l rest : List UInt8} (h : rdUint most l = (k, m, rest)) (hk : k ≠ 0) :
    (∃ n r, hd 110 59 l = (k, n, r)) ∨ (k = 4 ∧ ∃ n r, hd 110 59 l = (0, n, r) ∧ most < n) := by
  unfold rdUint at h
  split at h
  · rename_i n r hh
    by_cases hm : most < n
    · rw [if_pos hm] at h
      simp only [Prod.mk.injEq] at h
      exact Or.inr ⟨h.1.symm, n, r, hh, hm⟩
    · rw [if_neg hm] at h
      simp only [Prod.mk.injEq] at h
      exact absurd h.1.symm hk
  · rename_i k' n r hh
    simp only [Prod.mk.injEq] at h
    exact Or.inl ⟨n, r, by rw [hh, ← h.1]⟩
theorem rdBytes_ok {letter : UInt8} {most : Int} {l x rest : List UInt8} (h : rdBytes letter most l = (0, x, rest)) :
    0 ≤ most ∧ ∃ n r, hd letter 58 l = (0, n, r) ∧ (n : Int) ≤ most ∧ n ≤ r.length ∧ x = r.take n ∧ rest = r.drop n := by
  unfold rdBytes at h
  by_cases h0 : most < 0
  · rw [if_pos h0] at h; simp at h
  · rw [if_neg h0] at h
    refine ⟨by omega, ?_⟩
    split at h
    · rename_i n r hh
      by_cases h1 : most < (n : Int)
      · rw [if_pos h1] at h; simp at h
      · rw [if_neg h1] at h
        by_cases h2 : r.length < n
        · rw [if_pos h2] at h; simp at h
        · rw [if_neg h2] at h
          simp only [Prod.mk.injEq, true_and] at h
          exact ⟨n, r, hh, by omega, by omega, h.1.symm, h.2.symm⟩
    · simp at h
theorem rdBytes_err {letter : UInt8} {most : Int} {k : Nat} {l x rest : List UInt8} (h : rdBytes letter most l = (k, x, rest)) (hk : k ≠ 0) :
    (k = 1 ∧ most < 0) ∨ (0 ≤ most ∧ ((∃ n r, hd letter 58 l = (k, n, r)) ∨ ∃ n r, hd letter 58 l = (0, n, r) ∧ ((k = 2 ∧ most < (n : Int)) ∨ (k = 12 ∧ (n : Int) ≤ most ∧ r.length < n)))) := by
  unfold rdBytes at h
  by_cases h0 : most < 0
  · rw [if_pos h0] at h
    simp only [Prod.mk.injEq] at h
    exact Or.inl ⟨h.1.symm, h0⟩
  · rw [if_neg h0] at h
    refine Or.inr ⟨by omega, ?_⟩
    split at h
    · rename_i n r hh
      by_cases h1 : most < (n : Int)
      · rw [if_pos h1] at h
        simp only [Prod.mk.injEq] at h
        exact Or.inr ⟨n, r, hh, Or.inl ⟨h.1.symm, h1⟩⟩
      · rw [if_neg h1] at h
        by_cases h2 : r.length < n
        · rw [if_pos h2] at h
          simp only [Prod.mk.injEq] at h
          exact Or.inr ⟨n, r, hh, Or.inr ⟨h.1.symm, by omega, h2⟩⟩
        · rw [if_neg h2] at h
          simp only [Prod.mk.injEq] at h
          exact absurd h.1.symm hk
    · rename_i k' n r hh
      simp only [Prod.mk.injEq] at h
      exact Or.inl ⟨n, r, by rw [hh, ← h.1]⟩

theorem hd_cons (l e c : UInt8) (r : List UInt8) : hd l e (c :: r) = if c = l then scan e [] r else (3, 0, []) := rfl

theorem scan_err {e : UInt8} : ∀ (l pre : List UInt8) {k n : Nat} {r : List UInt8}, scan e pre l = (k, n, r) → k ≠ 0 → (k = 3 ∨ k = 12) ∧ n = 0 ∧ r = []
  | [], pre, k, n, r, h, hk => by
    simp only [scan, Prod.mk.injEq] at h
    obtain ⟨rfl, rfl, rfl⟩ := h
    exact ⟨Or.inr rfl, rfl, rfl⟩
  | c :: t, pre, k, n, r, h, hk => by
    unfold scan at h
    by_cases h1 : c = e
    · rw [if_pos h1] at h
      cases hn : numOf pre with
      | some m =>
        rw [hn] at h
        simp only [Prod.mk.injEq] at h
        exact absurd h.1.symm hk
      | none =>
        rw [hn] at h
        simp only [Prod.mk.injEq] at h
        obtain ⟨rfl, rfl, rfl⟩ := h
        exact ⟨Or.inl rfl, rfl, rfl⟩
    · rw [if_neg h1] at h
      by_cases h2 : isDg c = false ∨ pre.length = 20
      · rw [if_pos h2] at h
        simp only [Prod.mk.injEq] at h
        obtain ⟨rfl, rfl, rfl⟩ := h
        exact ⟨Or.inl rfl, rfl, rfl⟩
      · rw [if_neg h2] at h
        exact scan_err t _ h hk

theorem numOf_some {ds : List UInt8} {u : Nat} (h : numOf ds = some u) : ¬ (1 < ds.length ∧ ds.head? = some 48) ∧ Lib.parseUintB 64 ds = .ok u := by
  unfold numOf at h
  by_cases h1 : 1 < ds.length ∧ ds.head? = some 48
  · rw [if_pos h1] at h; cases h
  · rw [if_neg h1] at h
    refine ⟨h1, ?_⟩
    cases hp : Lib.parseUintB 64 ds with
    | ok v =>
      rw [hp] at h
      injection h with h
      rw [h]
    | _ => rw [hp] at h; cases h

theorem numOf_none {ds : List UInt8} (h : numOf ds = none) (h1 : ¬ (1 < ds.length ∧ ds.head? = some 48)) : Lib.parseUintB 64 ds = Lib.parseUintB 64 [] ∨ Lib.parseUintB 64 ds = .range := by
  unfold numOf at h
  rw [if_neg h1] at h
  cases hp : Lib.parseUintB 64 ds with
  | ok v => rw [hp] at h; cases h
  | range => exact Or.inr rfl
  | _ => exact Or.inl rfl

theorem numOf_lt {ds : List UInt8} {u : Nat} (h : numOf ds = some u) : u < 18446744073709551616 := by
  unfold numOf at h
  by_cases h1 : 1 < ds.length ∧ ds.head? = some 48
  · rw [if_pos h1] at h; cases h
  · rw [if_neg h1] at h
    by_cases h2 : ds = []
    · subst h2
      simp [Lib.parseUintB] at h
    · unfold Lib.parseUintB at h
      rw [if_neg h2] at h
      cases hp : Lib.parseUintM (2 ^ 64 - 1) 0 ds with
      | ok v =>
        rw [hp] at h
        injection h with h
        subst h
        have := Lib.parseUintM_le (2 ^ 64 - 1) ds 0 v (Nat.zero_le _) hp
        omega
      | _ => rw [hp] at h; cases h

theorem scan_lt {e : UInt8} : ∀ (l pre : List UInt8) {k n : Nat} {r : List UInt8}, scan e pre l = (k, n, r) → n < 18446744073709551616
  | [], pre, k, n, r, h => by
    simp only [scan, Prod.mk.injEq] at h
    omega
  | c :: t, pre, k, n, r, h => by
    unfold scan at h
    by_cases h1 : c = e
    · rw [if_pos h1] at h
      cases hn : numOf pre with
      | some m =>
        rw [hn] at h
        simp only [Prod.mk.injEq] at h
        obtain ⟨_, rfl, _⟩ := h
        exact numOf_lt hn
      | none =>
        rw [hn] at h
        simp only [Prod.mk.injEq] at h
        omega
    · rw [if_neg h1] at h
      by_cases h2 : isDg c = false ∨ pre.length = 20
      · rw [if_pos h2] at h
        simp only [Prod.mk.injEq] at h
        omega
      · rw [if_neg h2] at h
        exact scan_lt t _ h

theorem hd_lt {l e : UInt8} {bs : List UInt8} {k n : Nat} {r : List UInt8} (h : hd l e bs = (k, n, r)) : n < 18446744073709551616 := by
  rcases bs with _ | ⟨c, t⟩
  · simp only [hd, Prod.mk.injEq] at h; omega
  · rw [hd_cons] at h
    by_cases h1 : c = l
    · rw [if_pos h1] at h; exact scan_lt _ _ h
    · rw [if_neg h1] at h; simp only [Prod.mk.injEq] at h; omega

theorem scan_len {e : UInt8} : ∀ (l pre : List UInt8) {k n : Nat} {r : List UInt8}, scan e pre l = (k, n, r) → r.length ≤ l.length
  | [], pre, k, n, r, h => by
    simp only [scan, Prod.mk.injEq] at h
    obtain ⟨_, _, rfl⟩ := h
    simp
  | c :: t, pre, k, n, r, h => by
    rw [scan_cons] at h
    by_cases h1 : c = e
    · rw [if_pos h1] at h
      cases hn : numOf pre with
      | some m =>
        rw [hn] at h
        simp only [Prod.mk.injEq] at h
        obtain ⟨_, _, rfl⟩ := h
        simp
      | none =>
        rw [hn] at h
        simp only [Prod.mk.injEq] at h
        obtain ⟨_, _, rfl⟩ := h
        simp
    · rw [if_neg h1] at h
      by_cases h2 : isDg c = false ∨ pre.length = 20
      · rw [if_pos h2] at h
        simp only [Prod.mk.injEq] at h
        obtain ⟨_, _, rfl⟩ := h
        simp
      · rw [if_neg h2] at h
        have := scan_len t _ h
        simp only [List.length_cons]
        omega
theorem hd_len {l e : UInt8} {bs : List UInt8} {k n : Nat} {r : List UInt8} (h : hd l e bs = (k, n, r)) : r.length ≤ bs.length := by
  rcases bs with _ | ⟨c, t⟩
  · simp only [hd, Prod.mk.injEq] at h
    obtain ⟨_, _, rfl⟩ := h
    simp
  · rw [hd_cons] at h
    by_cases h1 : c = l
    · rw [if_pos h1] at h
      have := scan_len _ _ h
      simp only [List.length_cons]
      omega
    · rw [if_neg h1] at h
      simp only [Prod.mk.injEq] at h
      obtain ⟨_, _, rfl⟩ := h
      simp
theorem rdBytes_len {letter : UInt8} {most : Int} {l x rest : List UInt8} (h : rdBytes letter most l = (0, x, rest)) : x.length ≤ l.length := by
  obtain ⟨_, n, r, hh, _, _, rfl, _⟩ := rdBytes_ok h
  have := hd_len hh
  rw [List.length_take]
  omega

/-- A reader's state: what is left, and the first error's number (0: none). -/
def rUint (most : Nat) (s : List UInt8 × Nat) : (List UInt8 × Nat) × Nat :=
  if s.2 = 0 then (if (rdUint most s.1).1 = 0 then (((rdUint most s.1).2.2, 0), (rdUint most s.1).2.1) else ((s.1, (rdUint most s.1).1), 0)) else (s, 0)
def rInt (s : List UInt8 × Nat) : (List UInt8 × Nat) × Int :=
  if s.2 = 0 then (if (rdInt s.1).1 = 0 then (((rdInt s.1).2.2, 0), (rdInt s.1).2.1) else ((s.1, (rdInt s.1).1), 0)) else (s, 0)
def rBool (s : List UInt8 × Nat) : (List UInt8 × Nat) × Bool :=
  if s.2 = 0 then (if (rdBool s.1).1 = 0 then (((rdBool s.1).2.2, 0), (rdBool s.1).2.1) else ((s.1, (rdBool s.1).1), false)) else (s, false)
def rBytes (letter : UInt8) (most : Int) (s : List UInt8 × Nat) : (List UInt8 × Nat) × List UInt8 :=
  if s.2 = 0 then (if (rdBytes letter most s.1).1 = 0 then (((rdBytes letter most s.1).2.2, 0), (rdBytes letter most s.1).2.1) else ((s.1, (rdBytes letter most s.1).1), [])) else (s, [])

/-- What is laid. -/
def lUint (u : Nat) : List UInt8 := 110 :: (Lib.decDigits u ++ [59])
def lInt (k : Int) : List UInt8 := 105 :: (Lib.itoa k ++ [59])
def lBool (b : Bool) : List UInt8 := [if b then 121 else 122]
def lHead (letter : UInt8) (n : Nat) : List UInt8 := letter :: (Lib.decDigits n ++ [58])
def lText (l : List UInt8) : List UInt8 := lHead 116 l.length ++ l
def lBytes (l : List UInt8) : List UInt8 := lHead 98 l.length ++ l

/-- Which of five a number names. -/
def five (k : Int) : Nat := ((k % 18446744073709551616) % 5).toNat
theorem five_lt (k : Int) : five k < 5 := by unfold five; omega
/-- A thing laid: a number, an int, a truth, a text, bytes. -/
def layB (kd n : Int) (t : List UInt8) : List UInt8 :=
  if five kd = 0 then lUint (n % 18446744073709551616).toNat else if five kd = 1 then lInt n else if five kd = 2 then lBool (decide (0 < n)) else if five kd = 3 then lText t else lBytes t

end Go.Proofs.YtfblgkcipnkhaaaGreatDoor.pk

/-
  Plain mathematics: what is laid is taken off as it was, and as nothing else; a begin of it ends ahead of its end.
-/
namespace Go.Proofs.YtfblgkcipnkhaaaGreatDoor.pk
open Go

theorem parseM_snoc (M : Nat) (c : UInt8) : ∀ (l : List UInt8) (acc : Nat), Lib.parseUintM M acc (l ++ [c]) =
    match Lib.parseUintM M acc l with
    | .ok v => Lib.parseUintM M v [c]
    | e => e
  | [], acc => by simp [Lib.parseUintM]
  | d :: l, acc => by
    simp only [List.cons_append, Lib.parseUintM]
    by_cases h1 : 48 ≤ d.toNat ∧ d.toNat ≤ 57
    · rw [if_pos h1, if_pos h1]
      by_cases h2 : 1844674407370955162 ≤ acc
      · rw [if_pos h2, if_pos h2]
      · rw [if_neg h2, if_neg h2]
        by_cases h3 : M < acc * 10 + (d.toNat - 48)
        · rw [if_pos h3, if_pos h3]
        · rw [if_neg h3, if_neg h3]
          have := parseM_snoc M c l (acc * 10 + (d.toNat - 48))
          simpa [Lib.parseUintM] using this
    · rw [if_neg h1, if_neg h1]

theorem digit_toNat (x : Nat) (hx : x < 10) : (UInt8.ofNat (48 + x)).toNat = 48 + x := by
  simp [UInt8.toNat_ofNat']; omega

theorem parseM_digits (u : Nat) (hu : u < 18446744073709551616) : Lib.parseUintM (2 ^ 64 - 1) 0 (Lib.decDigits u) = .ok u := by
  induction u using Nat.strongRecOn with
  | ind u ih =>
    by_cases h : u < 10
    · rw [Lib.decDigits_one h]
      have := digit_toNat u h
      simp only [Lib.parseUintM]
      rw [if_pos (by omega), if_neg (by omega), if_neg (by omega)]
      congr 1
      omega
    · rw [Lib.decDigits, dif_neg h, parseM_snoc, ih (u / 10) (by omega) (by omega)]
      have := digit_toNat (u % 10) (by omega)
      simp only [Lib.parseUintM]
      rw [if_pos (by omega), if_neg (by omega), if_neg (by omega)]
      congr 1
      omega

theorem digits_ne (u : Nat) : Lib.decDigits u ≠ [] := by
  intro e
  have := Lib.nDigits_pos u
  rw [← Lib.decDigits_length, e] at this
  simp at this

theorem digits_all (u : Nat) : ∀ d ∈ Lib.decDigits u, isDg d = true := by
  induction u using Nat.strongRecOn with
  | ind u ih =>
    intro d hd
    by_cases h : u < 10
    · rw [Lib.decDigits_one h, List.mem_singleton] at hd
      subst hd
      have := digit_toNat u h
      simp only [isDg, decide_eq_true_eq]
      omega
    · rw [Lib.decDigits, dif_neg h, List.mem_append, List.mem_singleton] at hd
      rcases hd with hd | rfl
      · exact ih (u / 10) (by omega) d hd
      · have := digit_toNat (u % 10) (by omega)
        simp only [isDg, decide_eq_true_eq]
        omega

theorem digits_head (u : Nat) (hu : 1 ≤ u) : (Lib.decDigits u).head? ≠ some 48 := by
  induction u using Nat.strongRecOn with
  | ind u ih =>
    by_cases h : u < 10
    · rw [Lib.decDigits_one h]
      intro e
      simp only [List.head?_cons, Option.some.injEq] at e
      have h1 := digit_toNat u h
      rw [e] at h1
      have : (48 : UInt8).toNat = 48 := rfl
      omega
    · rw [Lib.decDigits, dif_neg h, List.head?_append]
      have := ih (u / 10) (by omega) (by omega)
      cases hh : (Lib.decDigits (u / 10)).head? with
      | none =>
        have := digits_ne (u / 10)
        rw [List.head?_eq_none_iff] at hh
        exact absurd hh this
      | some x =>
        rw [hh] at this
        simpa using this

theorem numOf_digits (u : Nat) (hu : u < 18446744073709551616) : numOf (Lib.decDigits u) = some u := by
  unfold numOf
  rw [if_neg, Lib.parseUintB, if_neg (digits_ne u), parseM_digits u hu]
  rintro ⟨h1, h2⟩
  rw [Lib.decDigits_length] at h1
  by_cases h0 : u = 0
  · subst h0
    rw [Lib.nDigits_small (by omega)] at h1
    omega
  · exact digits_head u (by omega) h2

theorem scan_digits (e : UInt8) (he : isDg e = false) (r : List UInt8) : ∀ (ds pre : List UInt8), (∀ d ∈ ds, isDg d = true) → pre.length + ds.length ≤ 20 →
    scan e pre (ds ++ e :: r) = match numOf (pre ++ ds) with
      | some n => (0, n, r)
      | none => (3, 0, [])
  | [], pre, _, _ => by
    rw [List.nil_append, scan_cons, if_pos rfl, List.append_nil]
    cases numOf pre <;> rfl
  | d :: ds, pre, hd, hl => by
    have h1 := hd d (by simp)
    rw [List.cons_append, scan_cons, if_neg (by rintro rfl; rw [h1] at he; cases he), if_neg]
    · rw [scan_digits e he r ds (pre ++ [d]) (fun x hx => hd x (by simp [hx])) (by simp at hl ⊢; omega)]
      simp
    · rintro (h | h)
      · rw [h1] at h; cases h
      · simp at hl; omega

theorem scan_cut (e : UInt8) (he : isDg e = false) : ∀ (ds pre : List UInt8), (∀ d ∈ ds, isDg d = true) → pre.length + ds.length ≤ 20 → scan e pre ds = (12, 0, [])
  | [], pre, _, _ => rfl
  | d :: ds, pre, hd, hl => by
    have h1 := hd d (by simp)
    rw [scan_cons, if_neg (by rintro rfl; rw [h1] at he; cases he), if_neg]
    · exact scan_cut e he ds (pre ++ [d]) (fun x hx => hd x (by simp [hx])) (by simp at hl ⊢; omega)
    · rintro (h | h)
      · rw [h1] at h; cases h
      · simp at hl; omega

theorem digits_len (u : Nat) (hu : u < 18446744073709551616) : (Lib.decDigits u).length ≤ 20 := by
  rw [Lib.decDigits_length]; exact Lib.nDigits_le20 u hu

theorem scan_dec (e : UInt8) (he : isDg e = false) (u : Nat) (hu : u < 18446744073709551616) (r : List UInt8) : scan e [] (Lib.decDigits u ++ e :: r) = (0, u, r) := by
  rw [scan_digits e he r _ _ (digits_all u) (by simpa using digits_len u hu), List.nil_append, numOf_digits u hu]

/-- A begin of digits and their sign, but not all: the end comes first. -/
theorem scan_dec_cut (e : UInt8) (he : isDg e = false) (u : Nat) (hu : u < 18446744073709551616) (j : Nat) (hj : j ≤ (Lib.decDigits u).length) : scan e [] ((Lib.decDigits u ++ [e]).take j) = (12, 0, []) := by
  rw [List.take_append_of_le_length hj]
  exact scan_cut e he _ _ (fun d hd => digits_all u d (List.mem_of_mem_take hd)) (by simp; have := digits_len u hu; omega)

theorem rdUint_lay (most u : Nat) (hu : u < 18446744073709551616) (hm : u ≤ most) (r : List UInt8) : rdUint most (lUint u ++ r) = (0, u, r) := by
  unfold rdUint lUint
  rw [List.cons_append, hd_cons, if_pos rfl, List.append_assoc, List.singleton_append, scan_dec 59 (by decide) u hu r]
  simp only
  rw [if_neg (by omega)]

theorem itoa_neg (k : Int) (h : k < 0) : Lib.itoa k = 45 :: Lib.decDigits k.natAbs := by unfold Lib.itoa; rw [if_pos h]
theorem itoa_pos' (k : Int) (h : ¬ k < 0) : Lib.itoa k = Lib.decDigits k.toNat := by unfold Lib.itoa; rw [if_neg h]

theorem digits_head45 (u : Nat) (r : List UInt8) : (Lib.decDigits u ++ r).head? ≠ some 45 := by
  intro e
  cases h : Lib.decDigits u with
  | nil => exact digits_ne u h
  | cons d t =>
    rw [h] at e
    simp only [List.cons_append, List.head?_cons, Option.some.injEq] at e
    have := digits_all u d (by rw [h]; simp)
    rw [e] at this
    exact absurd this (by decide)

theorem rdInt_plus (u : Nat) (hu : u ≤ 9223372036854775807) (r : List UInt8) : rdInt (105 :: (Lib.decDigits u ++ 59 :: r)) = (0, (u : Int), r) := by
  have h45 := digits_head45 u (59 :: r)
  rw [rdInt_cons, if_pos rfl, if_neg h45, scan_dec 59 (by decide) u (by omega) r]
  have e1 : decide ((Lib.decDigits u ++ 59 :: r).head? = some 45) = false := decide_eq_false h45
  simp only [e1, sgn, if_pos, if_pos hu]

theorem rdInt_minus (u : Nat) (h0 : 1 ≤ u) (hu : u ≤ 9223372036854775808) (r : List UInt8) : rdInt (105 :: 45 :: (Lib.decDigits u ++ 59 :: r)) = (0, -(u : Int), r) := by
  rw [rdInt_cons, if_pos rfl]
  simp only [List.head?_cons, if_pos, List.tail_cons, decide_true]
  rw [scan_dec 59 (by decide) u (by omega) r]
  have : sgn u true = (0, -(u : Int)) := by
    unfold sgn
    rw [if_neg (by decide), if_neg (by omega), if_pos hu]
  simp only [this, if_pos]

theorem rdInt_lay (k : Int) (h0 : -9223372036854775808 ≤ k) (h1 : k ≤ 9223372036854775807) (r : List UInt8) : rdInt (lInt k ++ r) = (0, k, r) := by
  unfold lInt
  by_cases h : k < 0
  · rw [itoa_neg k h]
    simp only [List.cons_append, List.append_assoc, List.nil_append]
    rw [rdInt_minus k.natAbs (by omega) (by omega) r]
    congr 2
    omega
  · rw [itoa_pos' k h]
    simp only [List.cons_append, List.append_assoc, List.nil_append]
    rw [rdInt_plus k.toNat (by omega) r]
    congr 2
    omega

theorem rdBool_lay (b : Bool) (r : List UInt8) : rdBool (lBool b ++ r) = (0, b, r) := by
  cases b <;> rfl

theorem hd_lHead (letter : UInt8) (n : Nat) (hn : n < 18446744073709551616) (r : List UInt8) : hd letter 58 (lHead letter n ++ r) = (0, n, r) := by
  unfold lHead
  rw [List.cons_append, hd_cons, if_pos rfl, List.append_assoc, List.singleton_append, scan_dec 58 (by decide) n hn r]

theorem rdBytes_lay (letter : UInt8) (l r : List UInt8) (hl : l.length < 18446744073709551616) (most : Int) (hm : (l.length : Int) ≤ most) : rdBytes letter most (lHead letter l.length ++ l ++ r) = (0, l, r) := by
  unfold rdBytes
  rw [if_neg (by omega), List.append_assoc, hd_lHead letter _ hl]
  simp only
  rw [if_neg (by omega), if_neg (by simp), List.take_left, List.drop_left]

theorem rdText_lay (l r : List UInt8) (hl : l.length < 18446744073709551616) (most : Int) (hm : (l.length : Int) ≤ most) : rdBytes 116 most (lText l ++ r) = (0, l, r) := rdBytes_lay 116 l r hl most hm
theorem rdBytes_lay' (l r : List UInt8) (hl : l.length < 18446744073709551616) (most : Int) (hm : (l.length : Int) ≤ most) : rdBytes 98 most (lBytes l ++ r) = (0, l, r) := rdBytes_lay 98 l r hl most hm

/-- What taking off as one of five leaves. -/
def asR (k : Nat) (len : Int) (s : List UInt8 × Nat) : List UInt8 × Nat :=
  if k = 0 then (rUint 18446744073709551615 s).1 else if k = 1 then (rInt s).1 else if k = 2 then (rBool s).1 else if k = 3 then (rBytes 116 len s).1 else (rBytes 98 len s).1

theorem asR_stop (k : Nat) (len : Int) (bs : List UInt8) (e : Nat) (he : e ≠ 0) : asR k len (bs, e) = (bs, e) := by
  unfold asR rUint rInt rBool rBytes
  simp only [if_neg he]
  split
  · rfl
  · split
    · rfl
    · split
      · rfl
      · split <;> rfl

/-- What is laid is taken off, and what is behind is left. -/
theorem asR_right (kd n : Int) (t r : List UInt8) (h0 : -9223372036854775808 ≤ n) (h1 : n ≤ 9223372036854775807) (ht : t.length < 18446744073709551616) : asR (five kd) t.length (layB kd n t ++ r, 0) = (r, 0) := by
  have hq := five_lt kd
  unfold asR layB
  by_cases c0 : five kd = 0
  · rw [if_pos c0, if_pos c0]
    simp only [rUint, if_pos]
    rw [rdUint_lay _ _ (by omega) (by omega)]
    rfl
  · rw [if_neg c0, if_neg c0]
    by_cases c1 : five kd = 1
    · rw [if_pos c1, if_pos c1]
      simp only [rInt, if_pos]
      rw [rdInt_lay n h0 h1]
      rfl
    · rw [if_neg c1, if_neg c1]
      by_cases c2 : five kd = 2
      · rw [if_pos c2, if_pos c2]
        simp only [rBool, if_pos]
        rw [rdBool_lay]
        rfl
      · rw [if_neg c2, if_neg c2]
        by_cases c3 : five kd = 3
        · rw [if_pos c3, if_pos c3]
          simp only [rBytes, if_pos]
          rw [rdText_lay t r ht _ (Int.le_refl _)]
          rfl
        · rw [if_neg c3, if_neg c3]
          simp only [rBytes, if_pos]
          rw [rdBytes_lay' t r ht _ (Int.le_refl _)]
          rfl

theorem layB_head (kd n : Int) (t : List UInt8) : ∃ c r, layB kd n t = c :: r ∧ ((five kd = 0 ∧ c = 110) ∨ (five kd = 1 ∧ c = 105) ∨ (five kd = 2 ∧ (c = 121 ∨ c = 122)) ∨ (five kd = 3 ∧ c = 116) ∨ (five kd = 4 ∧ c = 98)) := by
  have hq := five_lt kd
  unfold layB
  by_cases c0 : five kd = 0
  · rw [if_pos c0]; exact ⟨_, _, rfl, Or.inl ⟨c0, rfl⟩⟩
  · rw [if_neg c0]
    by_cases c1 : five kd = 1
    · rw [if_pos c1]; exact ⟨_, _, rfl, Or.inr (Or.inl ⟨c1, rfl⟩)⟩
    · rw [if_neg c1]
      by_cases c2 : five kd = 2
      · rw [if_pos c2]
        refine ⟨_, _, rfl, Or.inr (Or.inr (Or.inl ⟨c2, ?_⟩))⟩
        split
        · exact Or.inl rfl
        · exact Or.inr rfl
      · rw [if_neg c2]
        by_cases c3 : five kd = 3
        · rw [if_pos c3]; exact ⟨_, _, rfl, Or.inr (Or.inr (Or.inr (Or.inl ⟨c3, rfl⟩)))⟩
        · rw [if_neg c3]; exact ⟨_, _, rfl, Or.inr (Or.inr (Or.inr (Or.inr ⟨by omega, rfl⟩)))⟩

/-- A thing is taken off as nothing else. -/
theorem asR_wrong (k : Nat) (hk : k < 5) (kd n : Int) (t r : List UInt8) (len : Int) (hl : 0 ≤ len) (hne : k ≠ five kd) : asR k len (layB kd n t ++ r, 0) = (layB kd n t ++ r, 3) := by
  obtain ⟨c, u, hc, hh⟩ := layB_head kd n t
  rw [hc, List.cons_append]
  have hkk : k = 0 ∨ k = 1 ∨ k = 2 ∨ k = 3 ∨ k = 4 := by omega
  have hhd : ∀ l e : UInt8, c ≠ l → hd l e (c :: (u ++ r)) = (3, 0, []) := fun l e h => by rw [hd_cons, if_neg h]
  rcases hkk with rfl | rfl | rfl | rfl | rfl
  · have h1 : c ≠ 110 := by rintro rfl; rcases hh with ⟨h, _⟩ | ⟨_, h⟩ | ⟨_, h | h⟩ | ⟨_, h⟩ | ⟨_, h⟩ <;> first | omega | exact absurd h (by decide)
    simp [asR, rUint, rdUint, hhd _ _ h1]
  · have h1 : c ≠ 105 := by rintro rfl; rcases hh with ⟨_, h⟩ | ⟨h, _⟩ | ⟨_, h | h⟩ | ⟨_, h⟩ | ⟨_, h⟩ <;> first | omega | exact absurd h (by decide)
    simp [asR, rInt, rdInt, h1]
  · have h1 : c ≠ 121 ∧ c ≠ 122 := by
      constructor
      · rintro rfl; rcases hh with ⟨_, h⟩ | ⟨_, h⟩ | ⟨h, _⟩ | ⟨_, h⟩ | ⟨_, h⟩ <;> first | omega | exact absurd h (by decide)
      · rintro rfl; rcases hh with ⟨_, h⟩ | ⟨_, h⟩ | ⟨h, _⟩ | ⟨_, h⟩ | ⟨_, h⟩ <;> first | omega | exact absurd h (by decide)
    simp [asR, rBool, rdBool, h1.1, h1.2]
  · have h1 : c ≠ 116 := by rintro rfl; rcases hh with ⟨_, h⟩ | ⟨_, h⟩ | ⟨_, h | h⟩ | ⟨h, _⟩ | ⟨_, h⟩ <;> first | omega | exact absurd h (by decide)
    have h2 : ¬ len < 0 := by omega
    simp [asR, rBytes, rdBytes, hhd _ _ h1, h2]
  · have h1 : c ≠ 98 := by rintro rfl; rcases hh with ⟨_, h⟩ | ⟨_, h⟩ | ⟨_, h | h⟩ | ⟨_, h⟩ | ⟨h, _⟩ <;> first | omega | exact absurd h (by decide)
    have h2 : ¬ len < 0 := by omega
    simp [asR, rBytes, rdBytes, hhd _ _ h1, h2]

theorem layB_len (kd n : Int) (t : List UInt8) (h0 : -9223372036854775808 ≤ n) (h1 : n ≤ 9223372036854775807) (ht : t.length < 18446744073709551616) : (layB kd n t).length ≤ 23 + t.length := by
  unfold layB
  have hi := Lib.itoa_length_le n h0 h1
  have hd1 := digits_len (n % 18446744073709551616).toNat (by omega)
  have hd2 := digits_len t.length ht
  split
  · simp [lUint]; omega
  · split
    · simp [lInt]; omega
    · split
      · simp [lBool]; omega
      · split
        · simp [lText, lHead]; omega
        · simp [lBytes, lHead]; omega

end Go.Proofs.YtfblgkcipnkhaaaGreatDoor.pk

/-
  Plain mathematics: the value of digits, reckoned digit by digit, and told by comparing texts: what the document's own reader of digits does comes to the same as parsing them.
-/
namespace Go.Proofs.YtfblgkcipnkhaaaGreatDoor.pk
open Go

/-- Digits' value behind a value. -/
def fv (acc : Nat) : List UInt8 → Nat
  | [] => acc
  | d :: l => fv (10 * acc + (d.toNat - 48)) l

theorem fv_nil (acc : Nat) : fv acc [] = acc := rfl
theorem fv_one (acc : Nat) (d : UInt8) : fv acc [d] = 10 * acc + (d.toNat - 48) := rfl
theorem fv_append (l m : List UInt8) : ∀ acc, fv acc (l ++ m) = fv (fv acc l) m := by
  induction l with
  | nil => intro acc; rfl
  | cons d l ih => intro acc; exact ih _
theorem fv_eq (l : List UInt8) : ∀ (acc : Nat), fv acc l = acc * 10 ^ l.length + fv 0 l := by
  induction l with
  | nil =>
    intro acc
    have h1 : fv acc [] = acc := rfl
    have h2 : fv 0 [] = 0 := rfl
    rw [h1, h2, List.length_nil, Nat.pow_zero, Nat.mul_one, Nat.add_zero]
  | cons d l fv_eq =>
    intro acc
    have h1 : fv acc (d :: l) = fv (10 * acc + (d.toNat - 48)) l := rfl
    have h2 : fv 0 (d :: l) = fv (d.toNat - 48) l := by show fv (10 * 0 + (d.toNat - 48)) l = _; rw [Nat.mul_zero, Nat.zero_add]
    rw [h1, h2, fv_eq (10 * acc + (d.toNat - 48)), fv_eq (d.toNat - 48), List.length_cons, Nat.pow_succ, Nat.add_mul]
    have : 10 * acc * 10 ^ l.length = acc * (10 ^ l.length * 10) := by rw [Nat.mul_comm 10 acc, Nat.mul_assoc, Nat.mul_comm 10]
    omega
theorem fv_cons (d : UInt8) (l : List UInt8) : fv 0 (d :: l) = (d.toNat - 48) * 10 ^ l.length + fv 0 l := by
  have h2 : fv 0 (d :: l) = fv (d.toNat - 48) l := by show fv (10 * 0 + (d.toNat - 48)) l = _; rw [Nat.mul_zero, Nat.zero_add]
  rw [h2, fv_eq l]
theorem fv_lt (l : List UInt8) : (∀ d ∈ l, isDg d = true) → fv 0 l < 10 ^ l.length := by
  induction l with
  | nil =>
    intro _
    have h2 : fv 0 [] = 0 := rfl
    rw [h2, List.length_nil, Nat.pow_zero]
    exact Nat.one_pos
  | cons d l ih0 =>
    intro h
    have h1 := h d (by simp)
    simp only [isDg, decide_eq_true_eq] at h1
    have ih := ih0 (fun x hx => h x (by simp [hx]))
    rw [fv_cons, List.length_cons]
    have h9 : (d.toNat - 48) * 10 ^ l.length ≤ 9 * 10 ^ l.length := Nat.mul_le_mul_right _ (by omega)
    rw [Nat.pow_succ]
    omega
theorem fv_mono (l : List UInt8) (acc : Nat) : acc ≤ fv acc l := by
  rw [fv_eq]
  have : 1 ≤ 10 ^ l.length := Nat.pow_pos (by decide)
  have := Nat.mul_le_mul_left acc this
  omega

theorem parse_fv : ∀ (l : List UInt8) (acc : Nat), (∀ d ∈ l, isDg d = true) → acc < 18446744073709551616 →
    Lib.parseUintM (2 ^ 64 - 1) acc l = if fv acc l < 18446744073709551616 then .ok (fv acc l) else .range
  | [], acc, _, ha => by
    show Lib.NumEnd.ok acc = if acc < 18446744073709551616 then .ok acc else .range
    rw [if_pos ha]
  | d :: l, acc, h, ha => by
    have h1 := h d (by simp)
    simp only [isDg, decide_eq_true_eq] at h1
    have hf : fv acc (d :: l) = fv (10 * acc + (d.toNat - 48)) l := rfl
    rw [hf]
    simp only [Lib.parseUintM]
    rw [if_pos h1]
    have hm := fv_mono l (10 * acc + (d.toNat - 48))
    by_cases h2 : 1844674407370955162 ≤ acc
    · rw [if_pos h2, if_neg (by omega)]
    · rw [if_neg h2]
      by_cases h3 : 2 ^ 64 - 1 < acc * 10 + (d.toNat - 48)
      · rw [if_pos h3, if_neg (by omega)]
      · rw [if_neg h3, show acc * 10 + (d.toNat - 48) = 10 * acc + (d.toNat - 48) from by omega]
        exact parse_fv l _ (fun x hx => h x (by simp [hx])) (by omega)

theorem less_fv : ∀ (a b : List UInt8), a.length = b.length → (∀ d ∈ a, isDg d = true) → (∀ d ∈ b, isDg d = true) → Op.bytesLess a b = decide (fv 0 a < fv 0 b)
  | [], [], _, _, _ => rfl
  | x :: a, y :: b, hl, ha, hb => by
    have hx := ha x (by simp)
    have hy := hb y (by simp)
    simp only [isDg, decide_eq_true_eq] at hx hy
    have hl' : a.length = b.length := by simpa using hl
    have ih := less_fv a b hl' (fun d hd => ha d (by simp [hd])) (fun d hd => hb d (by simp [hd]))
    have la := fv_lt a (fun d hd => ha d (by simp [hd]))
    have lb := fv_lt b (fun d hd => hb d (by simp [hd]))
    rw [fv_cons, fv_cons, hl']
    simp only [Op.bytesLess]
    rw [ih]
    rw [hl'] at la
    generalize 10 ^ b.length = P at la lb ⊢
    by_cases hxy : x < y
    · have hn : x.toNat < y.toNat := UInt8.lt_iff_toNat_lt.1 hxy
      have hmul : ((x.toNat - 48) + 1) * P ≤ (y.toNat - 48) * P := Nat.mul_le_mul_right _ (by omega)
      rw [Nat.add_mul] at hmul
      simp only [hxy, decide_true, Bool.true_or]
      symm
      rw [decide_eq_true_eq]
      omega
    · by_cases he : x = y
      · subst he
        simp only [hxy, decide_false, beq_self_eq_true, Bool.true_and, Bool.false_or]
        congr 1
        rw [eq_iff_iff]
        omega
      · have hn : y.toNat < x.toNat := by
          have h1 : ¬ x.toNat < y.toNat := fun h => hxy (UInt8.lt_iff_toNat_lt.2 h)
          have h2 : x.toNat ≠ y.toNat := fun h => he (UInt8.toNat_inj.1 h)
          omega
        have hmul : ((y.toNat - 48) + 1) * P ≤ (x.toNat - 48) * P := Nat.mul_le_mul_right _ (by omega)
        rw [Nat.add_mul] at hmul
        have hb0 : (x == y) = false := by simpa using he
        simp only [hxy, decide_false, hb0, Bool.false_and, Bool.or_false]
        symm
        rw [decide_eq_false_iff_not]
        omega

theorem less_total : ∀ (a b : List UInt8), (!Op.bytesLess a b && !(a == b)) = Op.bytesLess b a
  | [], [] => rfl
  | [], y :: b => rfl
  | x :: a, [] => rfl
  | x :: a, y :: b => by
    have ih := less_total a b
    simp only [Op.bytesLess, List.cons_beq_cons]
    by_cases h1 : x < y
    · have h2 : ¬ y < x := fun h => by rw [UInt8.lt_iff_toNat_lt] at h h1; omega
      have h3 : ¬ y = x := fun h => by subst h; exact h2 h1
      simp [h1, h2, h3]
    · by_cases h2 : y < x
      · have h3 : ¬ x = y := fun h => by subst h; exact h1 h2
        simp [h1, h2, h3]
      · have h3 : x = y := UInt8.toNat_inj.1 (by rw [UInt8.lt_iff_toNat_lt] at h1 h2; omega)
        subst h3
        simp [h1, ← ih]

/-- The greatest uint64's digits. -/
def top20 : List UInt8 := [49, 56, 52, 52, 54, 55, 52, 52, 48, 55, 51, 55, 48, 57, 53, 53, 49, 54, 49, 53]
theorem top20_fv : fv 0 top20 = 18446744073709551615 := by decide
theorem top20_dg : ∀ d ∈ top20, isDg d = true := by decide

/-- Digits that are refused: none, a needless nought, or more than a uint64 holds, told by the text. -/
def badNum (ds : List UInt8) : Prop := ds = [] ∨ (1 < ds.length ∧ ds.head? = some 48) ∨ (ds.length = 20 ∧ Op.bytesLess top20 ds = true)

theorem numOf_fv (ds : List UInt8) (hd : ∀ d ∈ ds, isDg d = true) (hl : ds.length ≤ 20) : (badNum ds → numOf ds = none) ∧ (¬ badNum ds → numOf ds = some (fv 0 ds) ∧ fv 0 ds < 18446744073709551616) := by
  unfold numOf
  by_cases h0 : ds = []
  · subst h0
    refine ⟨fun _ => by simp [Lib.parseUintB], fun h => absurd (Or.inl rfl) h⟩
  · by_cases h1 : 1 < ds.length ∧ ds.head? = some 48
    · exact ⟨fun _ => by rw [if_pos h1], fun h => absurd (Or.inr (Or.inl h1)) h⟩
    · rw [if_neg h1, Lib.parseUintB, if_neg h0, parse_fv ds 0 hd (by omega)]
      have hlt := fv_lt ds hd
      by_cases hv : fv 0 ds < 18446744073709551616
      · rw [if_pos hv]
        refine ⟨fun h => ?_, fun _ => ⟨rfl, hv⟩⟩
        rcases h with h | h | ⟨h, hb⟩
        · exact absurd h h0
        · exact absurd h h1
        · rw [less_fv top20 ds (by rw [h]; rfl) top20_dg hd, top20_fv] at hb
          have := of_decide_eq_true hb
          omega
      · rw [if_neg hv]
        refine ⟨fun _ => rfl, fun h => ?_⟩
        exfalso
        apply h
        right; right
        have hlen : ds.length = 20 := by
          rcases Nat.lt_or_ge ds.length 20 with hh | hh
          · have : (10 : Nat) ^ ds.length ≤ 10 ^ 19 := Nat.pow_le_pow_right (by decide) (by omega)
            omega
          · omega
        refine ⟨hlen, ?_⟩
        rw [less_fv top20 ds (by rw [hlen]; rfl) top20_dg hd, top20_fv]
        exact decide_eq_true (by omega)

end Go.Proofs.YtfblgkcipnkhaaaGreatDoor.pk

/-
  Messages as plain things: which may be, their bytes, what bytes are.
-/
namespace Go.Proofs.YtfblgkcipnkhaaaGreatDoor.pk
open Go

structure Ms where
  kind : Int
  frm : Int
  to : Int
  term : Int
  index : Int
  logTerm : Int
  commit : Int
  round : Int
  ok : Bool
  off : Int
  data : List UInt8
  ents : List En
def zm : Ms := ⟨0, 0, 0, 0, 0, 0, 0, 0, false, 0, [], []⟩

def u64 (x : Int) : Nat := (x % 18446744073709551616).toNat
theorem u64_lt (x : Int) : u64 x < 18446744073709551616 := by unfold u64; omega
theorem u64_nat (n : Nat) (h : n < 18446744073709551616) : u64 (n : Int) = n := by unfold u64; omega
theorem u64_pos {x : Int} (h : 0 ≤ x) (h1 : x ≤ 9223372036854775807) : (u64 x : Int) = x := by unfold u64; omega

def fitM (e : En) : Bool := decide (1 ≤ e.index ∧ e.index ≤ 1099511627776 ∧ 1 ≤ e.term ∧ e.term ≤ 1099511627776 ∧ 0 ≤ e.kind ∧ e.kind ≤ 2 ∧ e.data.length ≤ 4096)
theorem fitM_iff {e : En} : fitM e = true ↔ 1 ≤ e.index ∧ e.index ≤ 1099511627776 ∧ 1 ≤ e.term ∧ e.term ≤ 1099511627776 ∧ 0 ≤ e.kind ∧ e.kind ≤ 2 ∧ e.data.length ≤ 4096 := by unfold fitM; exact decide_eq_true_iff
def rg (n lo hi : Int) : Bool := decide (lo ≤ n ∧ n ≤ hi)
theorem rg_iff {n lo hi : Int} : rg n lo hi = true ↔ lo ≤ n ∧ n ≤ hi := by unfold rg; exact decide_eq_true_iff
/-- The first test of May, and the second. -/
def mayM1 (m : Ms) : Bool := rg m.kind 1 6 && rg m.frm 1 64 && rg m.to 1 64 && decide (m.frm ≠ m.to) && rg m.term 1 1099511627776
def mayM2 (m : Ms) : Bool := rg m.index 0 1099511627776 && rg m.logTerm 0 1099511627776 && rg m.commit 0 1099511627776 && rg m.round 0 1099511627776 && rg m.off 0 1099511627776 && decide (m.data.length ≤ 4096) && decide (m.ents.length ≤ 64)
def mayM (m : Ms) : Bool := mayM1 m && mayM2 m && m.ents.all fitM
theorem mayM_iff {m : Ms} : mayM m = true ↔ (1 ≤ m.kind ∧ m.kind ≤ 6 ∧ 1 ≤ m.frm ∧ m.frm ≤ 64 ∧ 1 ≤ m.to ∧ m.to ≤ 64 ∧ m.frm ≠ m.to ∧ 1 ≤ m.term ∧ m.term ≤ 1099511627776) ∧
    (0 ≤ m.index ∧ m.index ≤ 1099511627776 ∧ 0 ≤ m.logTerm ∧ m.logTerm ≤ 1099511627776 ∧ 0 ≤ m.commit ∧ m.commit ≤ 1099511627776 ∧ 0 ≤ m.round ∧ m.round ≤ 1099511627776 ∧ 0 ≤ m.off ∧ m.off ≤ 1099511627776 ∧ m.data.length ≤ 4096 ∧ m.ents.length ≤ 64) ∧
    ∀ e ∈ m.ents, fitM e = true := by
  unfold mayM mayM1 mayM2
  simp only [Bool.and_eq_true, rg_iff, decide_eq_true_eq, List.all_eq_true]
  constructor
  · rintro ⟨⟨⟨⟨⟨⟨a1, a2⟩, a3⟩, a4⟩, a5⟩, ⟨⟨⟨⟨⟨b1, b2⟩, b3⟩, b4⟩, b5⟩, b6⟩, b7⟩, c⟩
    exact ⟨⟨a1.1, a1.2, a2.1, a2.2, a3.1, a3.2, a4, a5.1, a5.2⟩, ⟨b1.1, b1.2, b2.1, b2.2, b3.1, b3.2, b4.1, b4.2, b5.1, b5.2, b6, b7⟩, c⟩
  · rintro ⟨⟨a1, a2, a3, a4, a5, a6, a7, a8, a9⟩, ⟨b1, b2, b3, b4, b5, b6, b7, b8, b9, b10, b11, b12⟩, c⟩
    exact ⟨⟨⟨⟨⟨⟨⟨a1, a2⟩, a3, a4⟩, a5, a6⟩, a7⟩, a8, a9⟩, ⟨⟨⟨⟨⟨⟨b1, b2⟩, b3, b4⟩, b5, b6⟩, b7, b8⟩, b9, b10⟩, b11⟩, b12⟩, c⟩

/-- An entry as bytes; a message as bytes. -/
def encE (e : En) : List UInt8 := lUint (u64 e.index) ++ lUint (u64 e.term) ++ lUint (u64 e.kind) ++ lBytes e.data
def encEs (l : List En) : List UInt8 := l.flatMap fun e => lBytes (encE e)
def headM (m : Ms) : List UInt8 := lUint (u64 m.kind) ++ lUint (u64 m.frm) ++ lUint (u64 m.to) ++ lUint (u64 m.term) ++ lUint (u64 m.index) ++ lUint (u64 m.logTerm) ++ lUint (u64 m.commit) ++ lUint (u64 m.round) ++ lBool m.ok ++ lUint (u64 m.off) ++ lBytes m.data
def encM (m : Ms) : List UInt8 := headM m ++ lUint m.ents.length ++ encEs m.ents

/-- A reader's state, a count taken off. -/
def rCount (most : Nat) (s : List UInt8 × Nat) : (List UInt8 × Nat) × Nat :=
  if s.2 = 0 then
    if (rdUint most s.1).1 ≠ 0 then ((s.1, (rdUint most s.1).1), 0)
    else if (rdUint most s.1).2.2.length < (rdUint most s.1).2.1 then ((s.1, 2), 0) else (((rdUint most s.1).2.2, 0), (rdUint most s.1).2.1)
  else (s, 0)
/-- An entry's four things taken off; what bytes are as an entry. -/
def takeE (s : List UInt8 × Nat) : (List UInt8 × Nat) × En :=
  let a := rUint 1099511627776 s
  let b := rUint 1099511627776 a.1
  let c := rUint 2 b.1
  let d := rBytes 98 4096 c.1
  (d.1, ⟨(a.2 : Int), (b.2 : Int), (c.2 : Int), d.2⟩)
def doneR (s : List UInt8 × Nat) : Nat := if s.2 = 0 ∧ 0 < s.1.length then 3 else s.2
def decE (b : List UInt8) : En × Nat :=
  let r := takeE (b, 0)
  if doneR r.1 ≠ 0 ∨ r.2.index < 1 ∨ r.2.term < 1 then (⟨0, 0, 0, []⟩, 3) else (r.2, 0)
/-- Entries taken off, as long as no error is there. -/
def takeEs : Nat → (List UInt8 × Nat) → ((List UInt8 × Nat) × Bool) × List En
  | 0, s => ((s, true), [])
  | k + 1, s =>
    if s.2 ≠ 0 then ((s, true), []) else
      let x := rBytes 98 4200 s
      let e := decE x.2
      let r := takeEs k x.1
      ((r.1.1, decide (e.2 = 0) && r.1.2), e.1 :: r.2)
/-- What bytes are as a message. -/
def headR (b : List UInt8) : (List UInt8 × Nat) × Ms :=
  let r1 := rUint 1099511627776 (b, 0)
  let r2 := rUint 1099511627776 r1.1
  let r3 := rUint 1099511627776 r2.1
  let r4 := rUint 1099511627776 r3.1
  let r5 := rUint 1099511627776 r4.1
  let r6 := rUint 1099511627776 r5.1
  let r7 := rUint 1099511627776 r6.1
  let r8 := rUint 1099511627776 r7.1
  let r9 := rBool r8.1
  let r10 := rUint 1099511627776 r9.1
  let r11 := rBytes 98 4096 r10.1
  (r11.1, ⟨(r1.2 : Int), (r2.2 : Int), (r3.2 : Int), (r4.2 : Int), (r5.2 : Int), (r6.2 : Int), (r7.2 : Int), (r8.2 : Int), r9.2, (r10.2 : Int), r11.2, []⟩)
def allR (b : List UInt8) : ((List UInt8 × Nat) × Bool) × Ms :=
  let h := headR b
  let c := rCount 64 h.1
  let r := takeEs c.2 c.1
  (r.1, { h.2 with ents := r.2 })
def okR (b : List UInt8) : Bool := decide (doneR (allR b).1.1 = 0) && (allR b).1.2 && mayM (allR b).2
def decM (b : List UInt8) : Ms × Nat := if okR b = true then ((allR b).2, 0) else (zm, 3)

end Go.Proofs.YtfblgkcipnkhaaaGreatDoor.pk

/-
  Messages: what is laid is taken off; what is taken off is told by the same bytes again; a begin of a message, or more than it, is none.
-/
namespace Go.Proofs.YtfblgkcipnkhaaaGreatDoor.pk
open Go

theorem digit_back {d : UInt8} (h : isDg d = true) : UInt8.ofNat (48 + (d.toNat - 48)) = d := by
  unfold isDg at h
  have h := of_decide_eq_true h
  rw [show 48 + (d.toNat - 48) = d.toNat by omega]
  exact UInt8.ofNat_toNat
theorem dec_more (q r : Nat) (hq : 1 ≤ q) (hr : r < 10) : Lib.decDigits (10 * q + r) = Lib.decDigits q ++ [UInt8.ofNat (48 + r)] := by
  rw [Lib.decDigits, dif_neg (by omega), show (10 * q + r) / 10 = q by omega, show (10 * q + r) % 10 = r by omega]
theorem digits_fv : ∀ (n : Nat) (ds : List UInt8), ds.length = n → ds ≠ [] → (∀ d ∈ ds, isDg d = true) → ¬ (1 < ds.length ∧ ds.head? = some 48) → Lib.decDigits (fv 0 ds) = ds
  | 0, ds, hn, h0, _, _ => absurd (List.eq_nil_of_length_eq_zero hn) h0
  | n + 1, ds, hn, h0, hd, hb => by
    rcases List.eq_nil_or_concat ds with h | ⟨l, d, h⟩
    · exact absurd h h0
    rw [List.concat_eq_append] at h
    subst h
    have hdd := hd d (by simp)
    have hd2 := hdd
    unfold isDg at hd2
    have hd3 := of_decide_eq_true hd2
    by_cases hl : l = []
    · subst hl
      rw [List.nil_append, fv_one, show 10 * 0 + (d.toNat - 48) = d.toNat - 48 by omega, Lib.decDigits_one (by omega), digit_back hdd]
    · have hll : l.length = n := by simp at hn; exact hn
      have hlp : 0 < l.length := List.length_pos_iff.2 hl
      have hhead : (l ++ [d]).head? = l.head? := by cases l with
        | nil => exact absurd rfl hl
        | cons a r => rfl
      have ih := digits_fv n l hll hl (fun x hx => hd x (by simp [hx])) (fun h => hb ⟨by simp; omega, by rw [hhead]; exact h.2⟩)
      have hpos : 1 ≤ fv 0 l := by
        rcases Nat.eq_zero_or_pos (fv 0 l) with h | h
        · rw [h, Lib.decDigits_one (by omega)] at ih
          exact absurd ⟨by simp; omega, by rw [hhead, ← ih]; rfl⟩ hb
        · exact h
      rw [fv_append, fv_one, dec_more _ _ hpos (by omega), ih, digit_back hdd]
theorem numOf_dec {ds : List UInt8} {n : Nat} (hd : ∀ d ∈ ds, isDg d = true) (hl : ds.length ≤ 20) (h : numOf ds = some n) : ds = Lib.decDigits n := by
  obtain ⟨h1, h2⟩ := numOf_fv ds hd hl
  by_cases hb : badNum ds
  · rw [h1 hb] at h; cases h
  · have h3 := (h2 hb).1
    rw [h] at h3
    injection h3 with h3
    subst h3
    unfold badNum at hb
    exact (digits_fv _ ds rfl (fun e => hb (Or.inl e)) hd (fun e => hb (Or.inr (Or.inl e)))).symm
theorem scan_inv {e : UInt8} : ∀ (l pre : List UInt8) {n : Nat} {r : List UInt8}, pre.length ≤ 20 → scan e pre l = (0, n, r) → ∃ ds, l = ds ++ e :: r ∧ numOf (pre ++ ds) = some n ∧ (∀ d ∈ ds, isDg d = true) ∧ pre.length + ds.length ≤ 20
  | [], pre, n, r, _, h => by simp [scan] at h
  | c :: t, pre, n, r, hp, h => by
    rw [scan_cons] at h
    by_cases h1 : c = e
    · rw [if_pos h1] at h
      cases hn : numOf pre with
      | none => rw [hn] at h; simp at h
      | some m =>
        rw [hn] at h
        simp only [Prod.mk.injEq, true_and] at h
        obtain ⟨rfl, rfl⟩ := h
        exact ⟨[], by rw [h1]; rfl, by rw [List.append_nil]; exact hn, (fun d hd => by cases hd), by simpa using hp⟩
    · rw [if_neg h1] at h
      by_cases h2 : isDg c = false ∨ pre.length = 20
      · rw [if_pos h2] at h; simp at h
      · rw [if_neg h2] at h
        have hc : isDg c = true := by
          cases hx : isDg c with
          | true => rfl
          | false => exact absurd (Or.inl hx) h2
        have hp2 : pre.length ≠ 20 := fun e => h2 (Or.inr e)
        obtain ⟨ds, e1, e2, e3, e4⟩ := scan_inv t (pre ++ [c]) (by simp; omega) h
        refine ⟨c :: ds, by rw [e1]; rfl, by rw [List.append_cons]; exact e2, fun d hd => ?_, by simp at e4 ⊢; omega⟩
        rcases List.mem_cons.1 hd with rfl | hd
        · exact hc
        · exact e3 d hd
theorem hd_inv {l e : UInt8} {bs : List UInt8} {n : Nat} {r : List UInt8} (h : hd l e bs = (0, n, r)) : bs = l :: (Lib.decDigits n ++ e :: r) ∧ n < 18446744073709551616 := by
  refine ⟨?_, hd_lt h⟩
  cases bs with
  | nil => simp [hd] at h
  | cons c t =>
    rw [hd_cons] at h
    by_cases h1 : c = l
    · rw [if_pos h1] at h
      obtain ⟨ds, e1, e2, e3, e4⟩ := scan_inv t [] (by simp) h
      rw [List.nil_append] at e2
      rw [e1, h1, ← numOf_dec e3 (by simpa using e4) e2]
    · rw [if_neg h1] at h; simp at h
theorem rdUint_inv {most n : Nat} {l r : List UInt8} (h : rdUint most l = (0, n, r)) : l = lUint n ++ r ∧ n ≤ most ∧ n < 18446744073709551616 := by
  obtain ⟨h1, h2⟩ := rdUint_ok h
  obtain ⟨h3, h4⟩ := hd_inv h1
  refine ⟨?_, h2, h4⟩
  rw [h3]
  unfold lUint
  simp
theorem rdBytes_inv {letter : UInt8} {most : Int} {l x r : List UInt8} (h : rdBytes letter most l = (0, x, r)) : l = lHead letter x.length ++ x ++ r ∧ (x.length : Int) ≤ most ∧ x.length < 18446744073709551616 := by
  obtain ⟨_, n, t, h1, h2, h3, rfl, rfl⟩ := rdBytes_ok h
  obtain ⟨h4, h5⟩ := hd_inv h1
  have hl : (t.take n).length = n := by rw [List.length_take]; omega
  rw [hl]
  refine ⟨?_, h2, h5⟩
  rw [h4]
  unfold lHead
  simp
theorem rdBool_inv {b : Bool} {l r : List UInt8} (h : rdBool l = (0, b, r)) : l = lBool b ++ r := by
  cases l with
  | nil => simp [rdBool] at h
  | cons c t =>
    rw [rdBool_cons] at h
    by_cases h1 : c = 121
    · rw [if_pos h1] at h
      simp only [Prod.mk.injEq, true_and] at h
      obtain ⟨rfl, rfl⟩ := h
      rw [h1]; rfl
    · rw [if_neg h1] at h
      by_cases h2 : c = 122
      · rw [if_pos h2] at h
        simp only [Prod.mk.injEq, true_and] at h
        obtain ⟨rfl, rfl⟩ := h
        rw [h2]; rfl
      · rw [if_neg h2] at h; simp at h

/-! A reader's state: without an error behind, there was none ahead, and what was taken stood there. -/
theorem rUint_inv {most : Nat} {s : List UInt8 × Nat} (h : (rUint most s).1.2 = 0) : s.2 = 0 ∧ s.1 = lUint (rUint most s).2 ++ (rUint most s).1.1 ∧ (rUint most s).2 ≤ most ∧ (rUint most s).2 < 18446744073709551616 := by
  unfold rUint at h ⊢
  by_cases h0 : s.2 = 0
  · rw [if_pos h0] at h ⊢
    by_cases h1 : (rdUint most s.1).1 = 0
    · rw [if_pos h1]
      exact ⟨h0, rdUint_inv (Prod.ext h1 rfl)⟩
    · rw [if_neg h1] at h; exact absurd h h1
  · rw [if_neg h0] at h; exact absurd h h0
theorem rBytes_inv {letter : UInt8} {most : Int} {s : List UInt8 × Nat} (h : (rBytes letter most s).1.2 = 0) : s.2 = 0 ∧ s.1 = lHead letter (rBytes letter most s).2.length ++ (rBytes letter most s).2 ++ (rBytes letter most s).1.1 ∧ ((rBytes letter most s).2.length : Int) ≤ most ∧ (rBytes letter most s).2.length < 18446744073709551616 := by
  unfold rBytes at h ⊢
  by_cases h0 : s.2 = 0
  · rw [if_pos h0] at h ⊢
    by_cases h1 : (rdBytes letter most s.1).1 = 0
    · rw [if_pos h1]
      exact ⟨h0, rdBytes_inv (Prod.ext h1 rfl)⟩
    · rw [if_neg h1] at h; exact absurd h h1
  · rw [if_neg h0] at h; exact absurd h h0
theorem rBool_inv {s : List UInt8 × Nat} (h : (rBool s).1.2 = 0) : s.2 = 0 ∧ s.1 = lBool (rBool s).2 ++ (rBool s).1.1 := by
  unfold rBool at h ⊢
  by_cases h0 : s.2 = 0
  · rw [if_pos h0] at h ⊢
    by_cases h1 : (rdBool s.1).1 = 0
    · rw [if_pos h1]
      exact ⟨h0, rdBool_inv (Prod.ext h1 rfl)⟩
    · rw [if_neg h1] at h; exact absurd h h1
  · rw [if_neg h0] at h; exact absurd h h0
theorem rCount_inv {most : Nat} {s : List UInt8 × Nat} (h : (rCount most s).1.2 = 0) : s.2 = 0 ∧ s.1 = lUint (rCount most s).2 ++ (rCount most s).1.1 ∧ (rCount most s).2 ≤ most := by
  unfold rCount at h ⊢
  by_cases h0 : s.2 = 0
  · rw [if_pos h0] at h ⊢
    by_cases h1 : (rdUint most s.1).1 ≠ 0
    · rw [if_pos h1] at h; exact absurd h h1
    · rw [if_neg h1] at h ⊢
      have h1' : (rdUint most s.1).1 = 0 := by omega
      by_cases h2 : (rdUint most s.1).2.2.length < (rdUint most s.1).2.1
      · rw [if_pos h2] at h; cases h
      · rw [if_neg h2]
        obtain ⟨a, b, _⟩ := rdUint_inv (most := most) (n := (rdUint most s.1).2.1) (r := (rdUint most s.1).2.2) (Prod.ext h1' rfl)
        exact ⟨h0, a, b⟩
  · rw [if_neg h0] at h; exact absurd h h0
theorem doneR_iff {s : List UInt8 × Nat} : doneR s = 0 ↔ s.2 = 0 ∧ s.1 = [] := by
  unfold doneR
  by_cases h : s.2 = 0 ∧ 0 < s.1.length
  · rw [if_pos h]
    constructor
    · intro e; cases e
    · rintro ⟨_, e⟩; rw [e] at h; simp at h
  · rw [if_neg h]
    constructor
    · intro e
      refine ⟨e, ?_⟩
      cases hs : s.1 with
      | nil => rfl
      | cons a r => exact absurd ⟨e, by rw [hs]; simp⟩ h
    · exact fun e => e.1

theorem takeE_inv {s : List UInt8 × Nat} (h : (takeE s).1.2 = 0) : s.2 = 0 ∧ s.1 = encE (takeE s).2 ++ (takeE s).1.1 ∧ 0 ≤ (takeE s).2.index ∧ (takeE s).2.index ≤ 1099511627776 ∧ 0 ≤ (takeE s).2.term ∧ (takeE s).2.term ≤ 1099511627776 ∧ 0 ≤ (takeE s).2.kind ∧ (takeE s).2.kind ≤ 2 ∧ (takeE s).2.data.length ≤ 4096 := by
  unfold takeE at h ⊢
  simp only at h ⊢
  obtain ⟨d0, d1, d2, _⟩ := rBytes_inv h
  obtain ⟨c0, c1, c2, c3⟩ := rUint_inv d0
  obtain ⟨b0, b1, b2, b3⟩ := rUint_inv c0
  obtain ⟨a0, a1, a2, a3⟩ := rUint_inv b0
  refine ⟨a0, ?_, by omega, by omega, by omega, by omega, by omega, by omega, by omega⟩
  unfold encE lBytes
  rw [u64_nat _ a3, u64_nat _ b3, u64_nat _ c3]
  simp only [List.append_assoc]
  rw [← List.append_assoc (lHead 98 _), ← d1, ← c1, ← b1]
  exact a1
theorem decE_inv {b : List UInt8} (h : (decE b).2 = 0) : b = encE (decE b).1 ∧ fitM (decE b).1 = true := by
  unfold decE at h ⊢
  simp only at h ⊢
  by_cases hc : doneR (takeE (b, 0)).1 ≠ 0 ∨ (takeE (b, 0)).2.index < 1 ∨ (takeE (b, 0)).2.term < 1
  · rw [if_pos hc] at h; cases h
  · rw [if_neg hc]
    have hd : doneR (takeE (b, 0)).1 = 0 := by
      rcases Nat.eq_zero_or_pos (doneR (takeE (b, 0)).1) with e | e
      · exact e
      · exact absurd (Or.inl (by omega)) hc
    obtain ⟨hd1, hd2⟩ := doneR_iff.1 hd
    obtain ⟨_, e1, e2, e3, e4, e5, e6, e7, e8⟩ := takeE_inv hd1
    rw [hd2, List.append_nil] at e1
    have h1 : ¬ (takeE (b, 0)).2.index < 1 := fun e => hc (Or.inr (Or.inl e))
    have h2 : ¬ (takeE (b, 0)).2.term < 1 := fun e => hc (Or.inr (Or.inr e))
    have h3 : 1 ≤ (takeE (b, 0)).2.index := by omega
    have h4 : 1 ≤ (takeE (b, 0)).2.term := by omega
    exact ⟨e1, fitM_iff.2 ⟨h3, e3, h4, e5, e6, e7, e8⟩⟩
theorem takeEs_inv : ∀ (k : Nat) {s : List UInt8 × Nat}, (takeEs k s).1.1.2 = 0 → (takeEs k s).1.2 = true → s.2 = 0 ∧ s.1 = encEs (takeEs k s).2 ++ (takeEs k s).1.1.1 ∧ (takeEs k s).2.length = k ∧ ∀ e ∈ (takeEs k s).2, fitM e = true
  | 0, s, h, _ => ⟨h, rfl, rfl, fun e he => by cases he⟩
  | k + 1, s, h, hb => by
    unfold takeEs at h hb ⊢
    by_cases h0 : s.2 ≠ 0
    · rw [if_pos h0] at h; exact absurd h h0
    · rw [if_neg h0] at h hb ⊢
      simp only at h hb ⊢
      rw [Bool.and_eq_true, decide_eq_true_eq] at hb
      obtain ⟨i1, i2, i3, i4⟩ := takeEs_inv k h hb.2
      obtain ⟨j0, j1, _, _⟩ := rBytes_inv i1
      obtain ⟨k1, k2⟩ := decE_inv hb.1
      refine ⟨j0, ?_, by rw [List.length_cons, i3], fun e he => ?_⟩
      · rw [j1, i2]
        unfold encEs lBytes
        rw [List.flatMap_cons, ← k1]
        simp
      · rcases List.mem_cons.1 he with rfl | he
        · exact k2
        · exact i4 e he
theorem headR_inv {b : List UInt8} (h : (headR b).1.2 = 0) : b = headM (headR b).2 ++ (headR b).1.1 := by
  unfold headR at h ⊢
  simp only at h ⊢
  obtain ⟨q0, q1, _, _⟩ := rBytes_inv h
  obtain ⟨p0, p1, _, p3⟩ := rUint_inv q0
  obtain ⟨o0, o1⟩ := rBool_inv p0
  obtain ⟨n0, n1, _, n3⟩ := rUint_inv o0
  obtain ⟨m0, m1, _, m3⟩ := rUint_inv n0
  obtain ⟨l0, l1, _, l3⟩ := rUint_inv m0
  obtain ⟨k0, k1, _, k3⟩ := rUint_inv l0
  obtain ⟨j0, j1, _, j3⟩ := rUint_inv k0
  obtain ⟨i0, i1, _, i3⟩ := rUint_inv j0
  obtain ⟨g0, g1, _, g3⟩ := rUint_inv i0
  obtain ⟨f0, f1, _, f3⟩ := rUint_inv g0
  unfold headM lBytes
  simp only
  rw [u64_nat _ p3, u64_nat _ n3, u64_nat _ m3, u64_nat _ l3, u64_nat _ k3, u64_nat _ j3, u64_nat _ i3, u64_nat _ g3, u64_nat _ f3]
  simp only [List.append_assoc]
  rw [← List.append_assoc (lHead 98 _), ← q1, ← p1, ← o1, ← n1, ← m1, ← l1, ← k1, ← j1, ← i1, ← g1]
  exact f1
theorem allR_inv {b : List UInt8} (h1 : (allR b).1.1.2 = 0) (h2 : (allR b).1.2 = true) : b = encM (allR b).2 ++ (allR b).1.1.1 := by
  obtain ⟨x, hx⟩ : ∃ x, x = headR b := ⟨_, rfl⟩
  obtain ⟨y, hy⟩ : ∃ y, y = rCount 64 x.1 := ⟨_, rfl⟩
  obtain ⟨z, hz⟩ : ∃ z, z = takeEs y.2 y.1 := ⟨_, rfl⟩
  have e : allR b = (z.1, { x.2 with ents := z.2 }) := by rw [hz, hy, hx]; rfl
  rw [e] at h1 h2 ⊢
  rw [hz] at h1 h2
  obtain ⟨t1, t2, t3, -⟩ := takeEs_inv _ h1 h2
  rw [hy] at t1
  obtain ⟨c1, c2, -⟩ := rCount_inv t1
  rw [hx] at c1
  have e1 := headR_inv c1
  rw [← hx] at e1
  rw [← hy] at c2
  rw [← hz] at t2 t3
  show b = headM { x.2 with ents := z.2 } ++ lUint z.2.length ++ encEs z.2 ++ z.1.1.1
  rw [show headM { x.2 with ents := z.2 } = headM x.2 from rfl, t3, List.append_assoc, ← t2, List.append_assoc, ← c2]
  exact e1
theorem decM_two (b : List UInt8) : (okR b = true ∧ decM b = ((allR b).2, 0)) ∨ (okR b = false ∧ decM b = (zm, 3)) := by
  cases hx : okR b with
  | true => exact Or.inl ⟨rfl, by unfold decM; rw [if_pos hx]⟩
  | false => exact Or.inr ⟨rfl, by unfold decM; rw [if_neg (by rw [hx]; simp)]⟩
theorem okR_iff (b : List UInt8) : okR b = true ↔ (allR b).1.1.2 = 0 ∧ (allR b).1.1.1 = [] ∧ (allR b).1.2 = true ∧ mayM (allR b).2 = true := by
  unfold okR
  rw [Bool.and_eq_true, Bool.and_eq_true, decide_eq_true_eq, doneR_iff, and_assoc, and_assoc]
theorem decM_yes {b : List UInt8} (h : (decM b).2 = 0) : okR b = true ∧ decM b = ((allR b).2, 0) := by
  rcases decM_two b with h0 | h0
  · exact h0
  · rw [h0.2] at h; cases h
theorem decM_inv {b : List UInt8} (h : (decM b).2 = 0) : b = encM (decM b).1 ∧ mayM (decM b).1 = true := by
  obtain ⟨h1, h2⟩ := decM_yes h
  obtain ⟨i1, i2, i3, i4⟩ := (okR_iff b).1 h1
  have e := allR_inv (b := b) i1 i3
  rw [i2, List.append_nil] at e
  rw [h2]
  exact ⟨e, i4⟩

/-! What is laid is taken off. -/
theorem rUint_lay {most u : Nat} (hu : u < 18446744073709551616) (hm : u ≤ most) (r : List UInt8) : rUint most (lUint u ++ r, 0) = ((r, 0), u) := by
  unfold rUint
  rw [if_pos rfl]
  simp only [rdUint_lay most u hu hm r, if_true]
theorem rBytes_lay {most : Int} {l : List UInt8} (hl : l.length < 18446744073709551616) (hm : (l.length : Int) ≤ most) (r : List UInt8) : rBytes 98 most (lBytes l ++ r, 0) = ((r, 0), l) := by
  unfold rBytes
  rw [if_pos rfl]
  simp only [rdBytes_lay' l r hl most hm, if_true]
theorem rBool_lay (b : Bool) (r : List UInt8) : rBool (lBool b ++ r, 0) = ((r, 0), b) := by
  unfold rBool
  rw [if_pos rfl]
  simp only [rdBool_lay b r, if_true]
theorem rCount_lay {most u : Nat} (hu : u < 18446744073709551616) (hm : u ≤ most) (r : List UInt8) (hr : u ≤ r.length) : rCount most (lUint u ++ r, 0) = ((r, 0), u) := by
  unfold rCount
  rw [if_pos rfl]
  simp only [rdUint_lay most u hu hm r]
  rw [if_neg (by simp), if_neg (by omega)]
theorem takeE_lay {e : En} (h : fitM e = true) (r : List UInt8) : takeE (encE e ++ r, 0) = ((r, 0), e) := by
  obtain ⟨h1, h2, h3, h4, h5, h6, h7⟩ := fitM_iff.1 h
  have a1 := u64_pos (x := e.index) (by omega) (by omega)
  have a2 := u64_pos (x := e.term) (by omega) (by omega)
  have a3 := u64_pos (x := e.kind) (by omega) (by omega)
  unfold takeE encE
  simp only [List.append_assoc]
  rw [rUint_lay (u64_lt _) (by omega)]
  simp only
  rw [rUint_lay (u64_lt _) (by omega)]
  simp only
  rw [rUint_lay (u64_lt _) (by omega)]
  simp only
  rw [rBytes_lay (by omega) (by omega), a1, a2, a3]
theorem decE_lay {e : En} (h : fitM e = true) : decE (encE e) = (e, 0) := by
  obtain ⟨h1, h2, h3, h4, h5, h6, h7⟩ := fitM_iff.1 h
  have hx := takeE_lay h []
  rw [List.append_nil] at hx
  unfold decE
  simp only [hx]
  rw [if_neg]
  rintro (h | h | h)
  · exact h (doneR_iff.2 ⟨rfl, rfl⟩)
  · omega
  · omega
theorem dec_len (u : Nat) (hu : u < 18446744073709551616) : (lUint u).length ≤ 22 := by
  have := digits_len u hu
  unfold lUint
  simp only [List.length_cons, List.length_append, List.length_nil]
  omega
theorem encE_len {e : En} (h : e.data.length < 18446744073709551616) : (encE e).length ≤ 88 + e.data.length := by
  have h1 := dec_len _ (u64_lt e.index)
  have h2 := dec_len _ (u64_lt e.term)
  have h3 := dec_len _ (u64_lt e.kind)
  have h4 := digits_len _ h
  unfold encE lBytes lHead
  simp only [List.length_append, List.length_cons, List.length_nil]
  omega
theorem encEs_cons (e : En) (l : List En) : encEs (e :: l) = lBytes (encE e) ++ encEs l := by unfold encEs; rw [List.flatMap_cons]
theorem encEs_many : ∀ (l : List En), l.length ≤ (encEs l).length
  | [] => Nat.zero_le _
  | e :: l => by
    rw [encEs_cons, List.length_append, List.length_cons]
    have := encEs_many l
    have h : 1 ≤ (lBytes (encE e)).length := by unfold lBytes lHead; simp only [List.length_append, List.length_cons]; omega
    omega
theorem takeEs_lay : ∀ {l : List En}, (∀ e ∈ l, fitM e = true) → ∀ r, takeEs l.length (encEs l ++ r, 0) = (((r, 0), true), l)
  | [], _, r => rfl
  | e :: l, h, r => by
    have hf := h e (List.mem_cons_self ..)
    have h7 := (fitM_iff.1 hf).2.2.2.2.2.2
    have hl := encE_len (e := e) (by omega)
    rw [List.length_cons, encEs_cons, List.append_assoc]
    unfold takeEs
    rw [if_neg (by simp), rBytes_lay (by omega) (by omega)]
    simp only
    rw [takeEs_lay (fun x hx => h x (List.mem_cons_of_mem _ hx)) r, decE_lay hf]
    simp
theorem headR_lay {m : Ms} (h : mayM m = true) (r : List UInt8) : headR (headM m ++ r) = ((r, 0), { m with ents := [] }) := by
  obtain ⟨⟨a1, a2, a3, a4, a5, a6, a7, a8, a9⟩, ⟨b1, b2, b3, b4, b5, b6, b7, b8, b9, b10, b11, b12⟩, -⟩ := mayM_iff.1 h
  have e1 := u64_pos (x := m.kind) (by omega) (by omega)
  have e2 := u64_pos (x := m.frm) (by omega) (by omega)
  have e3 := u64_pos (x := m.to) (by omega) (by omega)
  have e4 := u64_pos (x := m.term) (by omega) (by omega)
  have e5 := u64_pos (x := m.index) (by omega) (by omega)
  have e6 := u64_pos (x := m.logTerm) (by omega) (by omega)
  have e7 := u64_pos (x := m.commit) (by omega) (by omega)
  have e8 := u64_pos (x := m.round) (by omega) (by omega)
  have e9 := u64_pos (x := m.off) (by omega) (by omega)
  unfold headR headM
  simp only [List.append_assoc]
  rw [rUint_lay (u64_lt _) (by omega)]
  simp only
  rw [rUint_lay (u64_lt _) (by omega)]
  simp only
  rw [rUint_lay (u64_lt _) (by omega)]
  simp only
  rw [rUint_lay (u64_lt _) (by omega)]
  simp only
  rw [rUint_lay (u64_lt _) (by omega)]
  simp only
  rw [rUint_lay (u64_lt _) (by omega)]
  simp only
  rw [rUint_lay (u64_lt _) (by omega)]
  simp only
  rw [rUint_lay (u64_lt _) (by omega)]
  simp only
  rw [rBool_lay]
  simp only
  rw [rUint_lay (u64_lt _) (by omega)]
  simp only
  rw [rBytes_lay (by omega) (by omega), e1, e2, e3, e4, e5, e6, e7, e8, e9]
theorem allR_lay {m : Ms} (h : mayM m = true) (r : List UInt8) : allR (encM m ++ r) = (((r, 0), true), m) := by
  obtain ⟨-, ⟨-, -, -, -, -, -, -, -, -, -, -, b12⟩, hf⟩ := mayM_iff.1 h
  unfold allR encM
  simp only [List.append_assoc]
  rw [headR_lay h]
  simp only
  rw [rCount_lay (by omega) b12 _ (by have := encEs_many m.ents; rw [List.length_append]; omega)]
  simp only
  rw [takeEs_lay hf]
theorem decM_lay {m : Ms} (h : mayM m = true) : decM (encM m) = (m, 0) := by
  have hx := allR_lay h []
  rw [List.append_nil] at hx
  have ho : okR (encM m) = true := by
    rw [okR_iff, hx]
    exact ⟨rfl, rfl, rfl, h⟩
  rcases decM_two (encM m) with h0 | h0
  · rw [h0.2, hx]
  · rw [ho] at h0; cases h0.1
/-- More than a message is none; nor is a begin of it. -/
theorem decM_more {m : Ms} (h : mayM m = true) {r : List UInt8} (hr : r ≠ []) : decM (encM m ++ r) = (zm, 3) := by
  rcases decM_two (encM m ++ r) with h0 | h0
  · have h1 := (okR_iff _).1 h0.1
    rw [allR_lay h] at h1
    exact absurd h1.2.1 hr
  · exact h0.2
theorem decM_cut {m : Ms} (h : mayM m = true) {k : Nat} (hk : k < (encM m).length) : decM ((encM m).take k) = (zm, 3) := by
  rcases decM_two ((encM m).take k) with h0 | h0
  · obtain ⟨e1, e2⟩ := decM_inv (b := (encM m).take k) (by rw [h0.2])
    have hne : (encM m).drop k ≠ [] := by
      intro e
      have := congrArg List.length e
      rw [List.length_drop, List.length_nil] at this
      omega
    obtain ⟨x, hx⟩ : ∃ x, x = (decM ((encM m).take k)).1 := ⟨_, rfl⟩
    rw [← hx] at e1 e2
    clear hx h0
    have e3 := decM_more e2 hne
    rw [← e1, List.take_append_drop, decM_lay h] at e3
    have e4 : (0 : Nat) = 3 := congrArg Prod.snd e3
    omega
  · exact h0.2

end Go.Proofs.YtfblgkcipnkhaaaGreatDoor.pk
