/-
  Objects with a footprint: which blocks a call may write; what lies outside of them stays.
-/
import Derived.Test.YtojejcafahighaaDoorApp
namespace Go.Proofs.YtojejcafahighaaDoor.pk
open Go Go.RowKit

/-- A call has left all as it was but the blocks of S, and new ones. -/
structure Kept (S : Nat → Prop) (w w' : World) : Prop where
  os : w'.os = w.os
  tape : w'.tape = w.tape
  output : w'.output = w.output
  size : w.heap.size ≤ w'.heap.size
  block : ∀ k, k < w.heap.size → ¬ S k → w'.heap[k]? = w.heap[k]?

theorem Kept.refl (S : Nat → Prop) (w : World) : Kept S w w := ⟨rfl, rfl, rfl, Nat.le_refl _, fun _ _ _ => rfl⟩
theorem Kept.of_below {S : Nat → Prop} {w w' : World} (h : Below w.heap.size w w') : Kept S w w' := ⟨h.os, h.tape, h.output, h.size, fun k hk _ => h.block k hk⟩
theorem Kept.below {S : Nat → Prop} {w w' : World} {B : Nat} (h : Kept S w w') (hS : ∀ k, S k → B ≤ k) (hB : B ≤ w.heap.size) : Below B w w' :=
  ⟨h.os, h.tape, h.output, h.size, fun k hk => h.block k (Nat.lt_of_lt_of_le hk hB) (fun hs => by have := hS k hs; omega)⟩
theorem Kept.mono {S S' : Nat → Prop} {w w' : World} (h : Kept S w w') (hs : ∀ k, S k → S' k) : Kept S' w w' := ⟨h.os, h.tape, h.output, h.size, fun k hk hn => h.block k hk (fun hk' => hn (hs k hk'))⟩

/-- The footprint has gone from S to S': what is new in it is new. -/
structure Turn (S S' : Nat → Prop) (w w' : World) : Prop where
  kept : Kept S w w'
  new : ∀ k, S' k → S k ∨ w.heap.size ≤ k

theorem Turn.refl (S : Nat → Prop) (w : World) : Turn S S w w := ⟨Kept.refl _ _, fun _ h => Or.inl h⟩
theorem Turn.of_below {S : Nat → Prop} {w w' : World} (h : Below w.heap.size w w') : Turn S S w w' := ⟨Kept.of_below h, fun _ h => Or.inl h⟩
theorem Turn.trans {S S' S'' : Nat → Prop} {a b c : World} (h : Turn S S' a b) (k : Turn S' S'' b c) : Turn S S'' a c := by
  refine ⟨⟨k.kept.os.trans h.kept.os, k.kept.tape.trans h.kept.tape, k.kept.output.trans h.kept.output, Nat.le_trans h.kept.size k.kept.size, fun i hi hn => ?_⟩, fun i hi => ?_⟩
  · have hn' : ¬ S' i := fun hs => by
      rcases h.new i hs with h1 | h1
      · exact hn h1
      · omega
    exact (k.kept.block i (Nat.lt_of_lt_of_le hi h.kept.size) hn').trans (h.kept.block i hi hn)
  · rcases k.new i hi with h1 | h1
    · exact h.new i h1
    · exact Or.inr (Nat.le_trans h.kept.size h1)
theorem Turn.low {S S' : Nat → Prop} {w w' : World} {B : Nat} (h : Turn S S' w w') (hS : ∀ k, S k → B ≤ k) (hB : B ≤ w.heap.size) : ∀ k, S' k → B ≤ k := fun k hk => by
  rcases h.new k hk with h1 | h1
  · exact hS k h1
  · omega
/-- Beside another footprint. -/
theorem Turn.beside {S S' T : Nat → Prop} {w w' : World} (h : Turn S S' w w') : Turn (fun k => S k ∨ T k) (fun k => S' k ∨ T k) w w' :=
  ⟨h.kept.mono fun _ => Or.inl, fun k hk => by
    rcases hk with hk | hk
    · rcases h.new k hk with h1 | h1
      · exact Or.inl (Or.inl h1)
      · exact Or.inr h1
    · exact Or.inl (Or.inr hk)⟩
theorem Turn.beside_left {S S' T : Nat → Prop} {w w' : World} (h : Turn S S' w w') : Turn (fun k => T k ∨ S k) (fun k => T k ∨ S' k) w w' :=
  ⟨h.kept.mono fun _ => Or.inr, fun k hk => by
    rcases hk with hk | hk
    · exact Or.inl (Or.inl hk)
    · rcases h.new k hk with h1 | h1
      · exact Or.inl (Or.inr h1)
      · exact Or.inr h1⟩
theorem Turn.drew {S S' : Nat → Prop} {w w' : World} (h : Turn S S' w w') : Turn S S' w w'.drew := ⟨⟨h.kept.os, h.kept.tape, h.kept.output, h.kept.size, h.kept.block⟩, h.new⟩
theorem Turn.undrew {S S' : Nat → Prop} {w w' : World} (h : Turn S S' w.drew w') : Turn S S' w w' := ⟨⟨h.kept.os, h.kept.tape, h.kept.output, h.kept.size, h.kept.block⟩, h.new⟩

/-- Blocks that are there and lie outside of a footprint. -/
def Av (w : World) (S : Nat → Prop) : Nat → Prop := fun k => k < w.heap.size ∧ ¬ S k
theorem Av.turn {S S' : Nat → Prop} {w w' : World} (h : Turn S S' w w') {k : Nat} (hk : Av w S k) : Av w' S' k := by
  refine ⟨Nat.lt_of_lt_of_le hk.1 h.kept.size, fun hs => ?_⟩
  rcases h.new k hs with h1 | h1
  · exact hk.2 h1
  · have := hk.1; omega
theorem Av.block {S S' : Nat → Prop} {w w' : World} (h : Turn S S' w w') {k : Nat} (hk : Av w S k) : w'.heap[k]? = w.heap[k]? := h.kept.block k hk.1 hk.2
theorem Av.cell {S S' : Nat → Prop} {w w' : World} (h : Turn S S' w w') {p : Addr} (hk : Av w S p.block) : w'.cell? p = w.cell? p := World.cell?_of_block (w := w) (Av.block h hk)

/-- A slice value that reads as these bytes, in blocks of T. -/
def SlT (w : World) (T : Nat → Prop) (v : Value) (bs : List UInt8) : Prop :=
  ∃ A c, v = .slice A bs.length c ∧ bs.length ≤ c ∧ c ≤ 9223372036854775807 ∧
    (bs = [] ∨ ∃ b off, A = some ⟨b, off, none⟩ ∧ T b ∧ ∀ j, j < bs.length → w.cell? ⟨b, off + j, none⟩ = some (.int .u8 ((bs.getD j 0).toNat : Int)))
theorem SlT.mono {w : World} {T T' : Nat → Prop} {v : Value} {bs : List UInt8} (h : SlT w T v bs) (ht : ∀ k, T k → T' k) : SlT w T' v bs := by
  obtain ⟨A, c, rfl, h1, h2, h3⟩ := h
  refine ⟨A, c, rfl, h1, h2, ?_⟩
  rcases h3 with h3 | ⟨b, off, rfl, hb, hc⟩
  · exact Or.inl h3
  · exact Or.inr ⟨b, off, rfl, ht b hb, hc⟩
theorem Sl.toT {w : World} {B : Nat} {v : Value} {bs : List UInt8} (h : Sl w B v bs) : SlT w (fun k => k < B) v bs := h
theorem SlT.sl {w : World} {T : Nat → Prop} {v : Value} {bs : List UInt8} (h : SlT w T v bs) : Sl w w.heap.size v bs := by
  obtain ⟨A, c, rfl, h1, h2, h3⟩ := h
  refine ⟨A, c, rfl, h1, h2, ?_⟩
  rcases h3 with h3 | ⟨b, off, rfl, hb, hc⟩
  · exact Or.inl h3
  · by_cases h0 : bs = []
    · exact Or.inl h0
    · have hl : 0 < bs.length := List.length_pos_iff.2 h0
      exact Or.inr ⟨b, off, rfl, World.block_lt_of_cell? w ⟨b, off + 0, none⟩ (hc 0 hl), hc⟩
theorem SlT.kept {w w' : World} {T : Nat → Prop} {v : Value} {bs : List UInt8} (h : SlT w T v bs) (hk : ∀ k, T k → k < w.heap.size → w'.heap[k]? = w.heap[k]?) : SlT w' T v bs := by
  obtain ⟨A, c, rfl, h1, h2, h3⟩ := h
  refine ⟨A, c, rfl, h1, h2, ?_⟩
  rcases h3 with h3 | ⟨b, off, rfl, hb, hc⟩
  · exact Or.inl h3
  · refine Or.inr ⟨b, off, rfl, hb, fun j hj => ?_⟩
    have := hc j hj
    exact (World.cell?_of_block (w := w) (a := ⟨b, off + j, none⟩) (hk b hb (World.block_lt_of_cell? w ⟨b, off + j, none⟩ this))).trans this
/-- What lies outside of the footprint stays, and stays outside. -/
theorem SlT.turn {S S' : Nat → Prop} {w w' : World} {v : Value} {bs : List UInt8} (h : SlT w (Av w S) v bs) (ht : Turn S S' w w') : SlT w' (Av w' S') v bs :=
  (h.kept fun _ hk _ => Av.block ht hk).mono fun _ hk => Av.turn ht hk
/-- What lies below the footprint lies outside of it. -/
theorem SlT.of_low {S : Nat → Prop} {w : World} {B : Nat} {v : Value} {bs : List UInt8} (h : Sl w B v bs) (hS : ∀ k, S k → B ≤ k) (hB : B ≤ w.heap.size) : SlT w (Av w S) v bs :=
  h.toT.mono fun k hk => ⟨Nat.lt_of_lt_of_le hk hB, fun hs => by have := hS k hs; omega⟩
theorem SlT.nil_ (w : World) (T : Nat → Prop) : SlT w T (.slice none 0 0) [] := ⟨none, 0, rfl, by simp, by omega, Or.inl rfl⟩
theorem SlT.form {w : World} {T : Nat → Prop} {v : Value} {bs : List UInt8} (h : SlT w T v bs) : ∃ A n c, v = .slice A n c := by
  obtain ⟨A, c, rfl, _⟩ := h
  exact ⟨_, _, _, rfl⟩

/-- A cut 's[k:]'. -/
theorem SlT.cut {w : World} {T : Nat → Prop} {A : Option Addr} {c n : Nat} {bs : List UInt8} (h : SlT w T (.slice A n c) bs) {k : Nat} (hk : k ≤ bs.length) :
    SlT w T (.slice (if c = k then A else A.map (·.add k)) (n - k) (c - k)) (bs.drop k) := by
  obtain ⟨A', c', hv, h1, h2, h3⟩ := h
  injection hv with e1 e2 e3
  subst e1; subst e2; subst e3
  refine ⟨_, _, by rw [List.length_drop], by rw [List.length_drop]; omega, by omega, ?_⟩
  rcases h3 with h3 | ⟨b, off, rfl, hb, hc⟩
  · left; rw [h3]; simp
  · by_cases he : k = bs.length
    · left; exact List.drop_eq_nil_of_le (by omega)
    · right
      rw [if_neg (by omega)]
      refine ⟨b, off + k, ?_, hb, fun j hj => ?_⟩
      · by_cases h0 : k = 0
        · subst h0; simp [Addr.add]
        · simp [Addr.add, h0]
      · rw [List.length_drop] at hj
        rw [getD_drop, Nat.add_assoc]
        exact hc (k + j) (by omega)
/-- A begin 's[:k]'. -/
theorem SlT.front {w : World} {T : Nat → Prop} {A : Option Addr} {c n : Nat} {bs : List UInt8} (h : SlT w T (.slice A n c) bs) {k : Nat} (hk : k ≤ bs.length) : SlT w T (.slice A k c) (bs.take k) := by
  obtain ⟨A', c', hv, h1, h2, h3⟩ := h
  injection hv with e1 e2 e3
  subst e1; subst e2; subst e3
  have hl : (bs.take k).length = k := by rw [List.length_take]; omega
  refine ⟨A, c, by rw [hl], by omega, h2, ?_⟩
  rcases h3 with h3 | ⟨b, off, rfl, hb, hc⟩
  · left; rw [h3]; simp
  · right
    refine ⟨b, off, rfl, hb, fun j hj => ?_⟩
    rw [hl] at hj
    rw [getD_take _ _ _ hj]
    exact hc j (by omega)

/-- Its number of bytes under a name. -/
theorem SlT.named {w : World} {T : Nat → Prop} {v : Value} {bs : List UInt8} (h : SlT w T v bs) {m : Nat} (hm : m = bs.length) : ∃ A c, v = .slice A m c ∧ m ≤ c ∧ c ≤ 9223372036854775807 ∧ SlT w T (.slice A m c) bs := by
  subst hm
  have h' := h
  obtain ⟨A, c, rfl, h1, h2, _⟩ := h
  exact ⟨A, c, rfl, h1, h2, h'⟩

end Go.Proofs.YtojejcafahighaaDoor.pk
