/-
  Words for memory: a slice of bytes that reads as a list; an error as a value.
-/
import Derived.Test.YtojejcafahighaaProg
import Derived.WalkKit
import Derived.WalkSpells
import Derived.WalkLawsBesides
import Derived.Lib.Hide
import Derived.Lib.LaidTab
import Derived.Lib.AppendIntMem
import Derived.Laws.BytesArg
import Derived.Deep.Draws
namespace Go.Proofs.Ytojejcafahighaa.pk
open Go Go.RowKit

/-- A slice value that reads as these bytes, in blocks below B. -/
def Sl (w : World) (B : Nat) (v : Value) (bs : List UInt8) : Prop :=
  ∃ A c, v = .slice A bs.length c ∧ bs.length ≤ c ∧ c ≤ 9223372036854775807 ∧
    (bs = [] ∨ ∃ b off, A = some ⟨b, off, none⟩ ∧ b < B ∧ ∀ j, j < bs.length → w.cell? ⟨b, off + j, none⟩ = some (.int .u8 ((bs.getD j 0).toNat : Int)))

theorem Sl.keep {w w' : World} {B : Nat} {v : Value} {bs : List UInt8} (h : Sl w B v bs) (hk : ∀ p : Addr, p.block < B → w'.cell? p = w.cell? p) : Sl w' B v bs := by
  obtain ⟨A, c, rfl, h1, h2, h3⟩ := h
  refine ⟨A, c, rfl, h1, h2, ?_⟩
  rcases h3 with h3 | ⟨b, off, rfl, hb, hc⟩
  · exact Or.inl h3
  · exact Or.inr ⟨b, off, rfl, hb, fun j hj => (hk _ hb).trans (hc j hj)⟩
theorem Sl.below {w w' : World} {B : Nat} {v : Value} {bs : List UInt8} (h : Sl w B v bs) (hb : Below B w w') : Sl w' B v bs := h.keep fun _ hp => hb.cell hp
theorem Sl.more {w : World} {B B' : Nat} {v : Value} {bs : List UInt8} (h : Sl w B v bs) (hB : B ≤ B') : Sl w B' v bs := by
  obtain ⟨A, c, rfl, h1, h2, h3⟩ := h
  refine ⟨A, c, rfl, h1, h2, ?_⟩
  rcases h3 with h3 | ⟨b, off, rfl, hb, hc⟩
  · exact Or.inl h3
  · exact Or.inr ⟨b, off, rfl, by omega, hc⟩
theorem Sl.nil_ (w : World) (B : Nat) : Sl w B (.slice none 0 0) [] := ⟨none, 0, rfl, by simp, by omega, Or.inl rfl⟩

theorem getD_drop (bs : List UInt8) (k j : Nat) : (bs.drop k).getD j 0 = bs.getD (k + j) 0 := by
  simp [List.getD]

/-- A cut 's[k:]'. -/
theorem Sl.cut {w : World} {B : Nat} {A : Option Addr} {c n : Nat} {bs : List UInt8} (h : Sl w B (.slice A n c) bs) {k : Nat} (hk : k ≤ bs.length) :
    Sl w B (.slice (if c = k then A else A.map (·.add k)) (n - k) (c - k)) (bs.drop k) := by
  obtain ⟨A', c', hv, h1, h2, h3⟩ := h
  injection hv with e1 e2 e3
  subst e1; subst e2; subst e3
  refine ⟨_, _, by rw [List.length_drop], by rw [List.length_drop]; omega, by omega, ?_⟩
  rcases h3 with h3 | ⟨b, off, rfl, hb, hc⟩
  · left; rw [h3]; simp
  · by_cases he : k = bs.length
    · left; exact List.drop_eq_nil_of_le (by omega)
    · right
      by_cases hck : c = k
      · omega
      · rw [if_neg hck]
        refine ⟨b, off + k, ?_, hb, fun j hj => ?_⟩
        · by_cases h0 : k = 0
          · subst h0; simp [Addr.add]
          · simp [Addr.add, h0]
        · rw [List.length_drop] at hj
          rw [getD_drop, Nat.add_assoc]
          exact hc (k + j) (by omega)

/-- The first byte's cell. -/
theorem Sl.head {w : World} {B : Nat} {A : Option Addr} {c n : Nat} {d : UInt8} {r : List UInt8} (h : Sl w B (.slice A n c) (d :: r)) :
    ∃ b off, A = some ⟨b, off, none⟩ ∧ b < B ∧ n = r.length + 1 ∧ r.length + 1 ≤ c ∧ c ≤ 9223372036854775807 ∧ w.cell? ⟨b, off, none⟩ = some (.int .u8 (d.toNat : Int)) := by
  obtain ⟨A', c', hv, h1, h2, h3⟩ := h
  injection hv with e1 e2 e3
  subst e1; subst e2; subst e3
  rcases h3 with h3 | ⟨b, off, rfl, hb, hc⟩
  · cases h3
  · exact ⟨b, off, rfl, hb, rfl, h1, h2, hc 0 (by simp)⟩
theorem Sl.tail_one {w : World} {B b off n : Nat} {d : UInt8} {r : List UInt8} (h : Sl w B (.slice (some ⟨b, off, none⟩) n 1) (d :: r)) : Sl w B (.slice (some ⟨b, off, none⟩) r.length 0) r := by
  have hn : n = r.length + 1 := by obtain ⟨_, _, _, _, hn, _⟩ := h.head; exact hn
  have := h.cut (k := 1) (by simp)
  rw [if_pos rfl, hn] at this
  exact this
theorem Sl.tail_more {w : World} {B b off n c : Nat} {d : UInt8} {r : List UInt8} (h : Sl w B (.slice (some ⟨b, off, none⟩) n c) (d :: r)) (hc : ¬ c = 1) : Sl w B (.slice (some ⟨b, off + 1, none⟩) r.length (c - 1)) r := by
  have hn : n = r.length + 1 := by obtain ⟨_, _, _, _, hn, _⟩ := h.head; exact hn
  have := h.cut (k := 1) (by simp)
  rw [if_neg hc, hn] at this
  exact this
theorem Sl.len {w : World} {B : Nat} {A : Option Addr} {c n : Nat} {bs : List UInt8} (h : Sl w B (.slice A n c) bs) : n = bs.length ∧ n ≤ c ∧ c ≤ 9223372036854775807 := by
  obtain ⟨A', c', hv, h1, h2, _⟩ := h
  injection hv with e1 e2 e3
  subst e1; subst e2; subst e3
  exact ⟨rfl, h1, h2⟩

theorem getD_take (bs : List UInt8) (k j : Nat) (h : j < k) : (bs.take k).getD j 0 = bs.getD j 0 := by
  simp [List.getD, h]

/-- A begin 's[:k]'. -/
theorem Sl.front {w : World} {B : Nat} {A : Option Addr} {c n : Nat} {bs : List UInt8} (h : Sl w B (.slice A n c) bs) {k : Nat} (hk : k ≤ bs.length) :
    Sl w B (.slice A k c) (bs.take k) := by
  obtain ⟨A', c', hv, h1, h2, h3⟩ := h
  injection hv with e1 e2 e3
  subst e1; subst e2; subst e3
  have hl : (bs.take k).length = k := by rw [List.length_take]; omega
  refine ⟨A, c, by rw [hl], by omega, h2, ?_⟩
  rcases h3 with h3 | ⟨b, off, rfl, hb, hc⟩
  · left; rw [h3]; simp
  · right
    refine ⟨b, off, rfl, hb, fun j hj => ?_⟩
    rw [hl] at hj
    rw [getD_take _ _ _ hj]
    exact hc j (by omega)

/-- Bytes as a text: 'string(b)'. -/
theorem conv_any {P : Program} {w : World} {B : Nat} {A : Option Addr} {c n ts td te : Nat} {bs : List UInt8} (t1 : P.underlying ts = some (.slice te)) (t2 : P.underlying te = some (.int .u8))
    (t3 : P.underlying td = some .string) (h : Sl w B (.slice A n c) bs) : (convert ts td (.slice A n c)).run P w = .ok (.string ⟨bs.toArray⟩) w := by
  obtain ⟨A', c', hv, h1, h2, h3⟩ := h
  injection hv with e1 e2 e3
  subst e1; subst e2; subst e3
  rcases h3 with h3 | ⟨b, off, rfl, hb, hc⟩
  · subst h3
    rcases A with _ | a
    · exact run_convert_bytes_nil w _ _ t1 t2 _ _ _ t3
    · rw [run_convert_bytes_string w _ _ _ _ _ _ t1 t2 t3]
      exact run_bytesToString w a _ _ [] (run_loadCells_list (P := P) w a [] (fun j v hj => by simp at hj))
  · have hr := run_convert_bytes_arg w _ _ t1 t2 b off bs.length c (bs.map fun x => (x.toNat : Int)) (by simp) (fun i hi => by
      rw [hc i hi]
      simp [List.getD, List.getElem?_eq_getElem hi]) _ t3
    rw [hr]
    congr 2
    simp [strOfNums, Function.comp_def]

end Go.Proofs.Ytojejcafahighaa.pk
