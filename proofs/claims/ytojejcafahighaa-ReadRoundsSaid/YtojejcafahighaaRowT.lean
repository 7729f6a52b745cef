/-
  Slices of any elements in memory, cell by cell; an error as a value.
-/
import Derived.Test.YtojejcafahighaaFoot
namespace Go.Proofs.Ytojejcafahighaa.pk
open Go Go.RowKit

/-- A slice value of n elements of sz cells each, which hold cs, in blocks of T. -/
def RowT (w : World) (T : Nat → Prop) (sz : Nat) (v : Value) (n : Nat) (cs : List Value) : Prop :=
  cs.length = n * sz ∧ ∃ A c, v = .slice A n c ∧ n ≤ c ∧ c ≤ 9223372036854775807 ∧
    (n = 0 ∨ ∃ b off, A = some ⟨b, off, none⟩ ∧ T b ∧ ∀ j u, cs[j]? = some u → w.cell? ⟨b, off + j, none⟩ = some u)

theorem RowT.mono {w : World} {T T' : Nat → Prop} {sz : Nat} {v : Value} {n : Nat} {cs : List Value} (h : RowT w T sz v n cs) (ht : ∀ k, T k → T' k) : RowT w T' sz v n cs := by
  obtain ⟨h0, A, c, rfl, h1, h2, h3⟩ := h
  refine ⟨h0, A, c, rfl, h1, h2, ?_⟩
  rcases h3 with h3 | ⟨b, off, rfl, hb, hc⟩
  · exact Or.inl h3
  · exact Or.inr ⟨b, off, rfl, ht b hb, hc⟩
theorem RowT.kept {w w' : World} {T : Nat → Prop} {sz : Nat} {v : Value} {n : Nat} {cs : List Value} (h : RowT w T sz v n cs) (hk : ∀ k, T k → k < w.heap.size → w'.heap[k]? = w.heap[k]?) : RowT w' T sz v n cs := by
  obtain ⟨h0, A, c, rfl, h1, h2, h3⟩ := h
  refine ⟨h0, A, c, rfl, h1, h2, ?_⟩
  rcases h3 with h3 | ⟨b, off, rfl, hb, hc⟩
  · exact Or.inl h3
  · refine Or.inr ⟨b, off, rfl, hb, fun j u hj => ?_⟩
    have := hc j u hj
    exact (World.cell?_of_block (w := w) (a := ⟨b, off + j, none⟩) (hk b hb (World.block_lt_of_cell? w ⟨b, off + j, none⟩ this))).trans this
theorem RowT.turn {S S' : Nat → Prop} {w w' : World} {sz : Nat} {v : Value} {n : Nat} {cs : List Value} (h : RowT w (Av w S) sz v n cs) (ht : Turn S S' w w') : RowT w' (Av w' S') sz v n cs :=
  (h.kept fun _ hk _ => Av.block ht hk).mono fun _ hk => Av.turn ht hk
theorem RowT.nil_ (w : World) (T : Nat → Prop) (sz : Nat) : RowT w T sz (.slice none 0 0) 0 [] := ⟨by simp, none, 0, rfl, by omega, by omega, Or.inl rfl⟩
theorem RowT.form {w : World} {T : Nat → Prop} {sz : Nat} {v : Value} {n : Nat} {cs : List Value} (h : RowT w T sz v n cs) : ∃ A c, v = .slice A n c ∧ n ≤ c ∧ c ≤ 9223372036854775807 := by
  obtain ⟨_, A, c, rfl, h1, h2, _⟩ := h
  exact ⟨A, c, rfl, h1, h2⟩
/-- Where there is an element there is a place. -/
theorem RowT.at_ {w : World} {T : Nat → Prop} {sz : Nat} {A : Option Addr} {n n' c : Nat} {cs : List Value} (h : RowT w T sz (.slice A n' c) n cs) (hn : 0 < n) :
    n' = n ∧ n ≤ c ∧ c ≤ 9223372036854775807 ∧ ∃ b off, A = some ⟨b, off, none⟩ ∧ T b ∧ ∀ j u, cs[j]? = some u → w.cell? ⟨b, off + j, none⟩ = some u := by
  obtain ⟨_, A', c', hv, h1, h2, h3⟩ := h
  injection hv with e1 e2 e3
  subst e1; subst e2; subst e3
  rcases h3 with h3 | h3
  · omega
  · exact ⟨rfl, h1, h2, h3⟩
/-- What the call owns. -/
theorem RowT.of_own {w : World} {base e sz : Nat} {v : Value} {n : Nat} {cs : List Value} (h : w.ownsRow base e sz v n cs) (T : Nat → Prop) (hT : ∀ g, v.ownBlock = some g → T g) : RowT w T sz v n cs := by
  refine ⟨h.1, ?_⟩
  rcases h.2 with ⟨rfl, rfl⟩ | ⟨g, cap, cur, rfl, hb, hg, hnc, hcm, hcs, htk⟩
  · exact ⟨none, 0, rfl, by omega, by omega, Or.inl rfl⟩
  · refine ⟨some ⟨g, 0, none⟩, cap, rfl, hnc, by simp only [maxLen] at hcm; omega, Or.inr ⟨g, 0, rfl, hT g rfl, fun j u hj => ?_⟩⟩
    have hc := h.cells (g := g) rfl j u hj
    rw [Lib.add_plain] at hc
    exact hc
/-- A begin 's[:k]'. -/
theorem RowT.front {w : World} {T : Nat → Prop} {sz : Nat} {A : Option Addr} {n n' c : Nat} {cs : List Value} (h : RowT w T sz (.slice A n' c) n cs) {k : Nat} (hk : k ≤ n) : RowT w T sz (.slice A k c) k (cs.take (k * sz)) := by
  obtain ⟨h0, A', c', hv, h1, h2, h3⟩ := h
  injection hv with e1 e2 e3
  subst e1; subst e2; subst e3
  have hm : k * sz ≤ n' * sz := Nat.mul_le_mul_right sz hk
  refine ⟨by rw [List.length_take]; omega, A, c, rfl, by omega, h2, ?_⟩
  rcases h3 with h3 | ⟨b, off, rfl, hb, hc⟩
  · left; omega
  · by_cases hk0 : k = 0
    · exact Or.inl hk0
    · refine Or.inr ⟨b, off, rfl, hb, fun j u hj => hc j u ?_⟩
      rw [List.getElem?_take] at hj
      split at hj
      · exact hj
      · cases hj

/-- Numbers, truths. -/
def IntsT (w : World) (T : Nat → Prop) (v : Value) (zs : List Int) : Prop := RowT w T 1 v zs.length (zs.map (Value.int .i64))
def BoolsT (w : World) (T : Nat → Prop) (v : Value) (zs : List Bool) : Prop := RowT w T 1 v zs.length (zs.map Value.bool)

theorem SlT.row {w : World} {T : Nat → Prop} {v : Value} {bs : List UInt8} (h : SlT w T v bs) : RowT w T 1 v bs.length (Lib.byteCells bs) := by
  obtain ⟨A, c, rfl, h1, h2, h3⟩ := h
  refine ⟨by simp [Lib.byteCells], A, c, rfl, h1, h2, ?_⟩
  rcases h3 with h3 | ⟨b, off, rfl, hb, hc⟩
  · left; rw [h3]; rfl
  · refine Or.inr ⟨b, off, rfl, hb, fun j u hj => ?_⟩
    rw [byteCells_get] at hj
    obtain ⟨x, hx, rfl⟩ := Option.map_eq_some_iff.1 hj
    obtain ⟨hlt, hx'⟩ := List.getElem?_eq_some_iff.1 hx
    have := hc j hlt
    rw [this]
    simp [List.getD, hx]
theorem RowT.sl {w : World} {T : Nat → Prop} {v : Value} {bs : List UInt8} (h : RowT w T 1 v bs.length (Lib.byteCells bs)) : SlT w T v bs := by
  obtain ⟨_, A, c, rfl, h1, h2, h3⟩ := h
  refine ⟨A, c, rfl, h1, h2, ?_⟩
  rcases h3 with h3 | ⟨b, off, rfl, hb, hc⟩
  · exact Or.inl (List.eq_nil_of_length_eq_zero h3)
  · refine Or.inr ⟨b, off, rfl, hb, fun j hj => ?_⟩
    have := hc j (.int .u8 ((bs[j].toNat : Nat) : Int)) (by rw [byteCells_get, List.getElem?_eq_getElem hj]; rfl)
    rw [this]
    simp [List.getD, List.getElem?_eq_getElem hj]
/-- What the call owns, as bytes. -/
theorem SlT.of_own {w : World} {base e : Nat} {v : Value} {bs : List UInt8} (h : w.ownsRow base e 1 v bs.length (Lib.byteCells bs)) (T : Nat → Prop) (hT : ∀ g, v.ownBlock = some g → T g) : SlT w T v bs := (RowT.of_own h T hT).sl

/-- Bytes' places, where there is one. -/
theorem sl_at {w : World} {T : Nat → Prop} {A : Option Addr} {n n' c : Nat} {bs : List UInt8} (h : SlT w T (.slice A n c) bs) (hn : bs.length = n') (h0 : 0 < n') :
    ∃ b off, A = some ⟨b, off, none⟩ ∧ ∀ t, t < n' → w.cell? ⟨b, off + t, none⟩ = some (.int .u8 ((bs.getD t 0).toNat : Int)) := by
  obtain ⟨A', c', hv, _, _, h3⟩ := h
  injection hv with e1 _ _
  subst e1
  rcases h3 with h3 | ⟨b, off, rfl, _, hc⟩
  · rw [h3] at hn; simp at hn; omega
  · exact ⟨b, off, rfl, fun t ht => hc t (by omega)⟩

/-- A slice of slices of bytes. -/
def ListsT (w : World) (T : Nat → Prop) (v : Value) (ls : List (List UInt8)) : Prop :=
  ∃ cs, RowT w T 1 v ls.length cs ∧ ∀ j (h : j < ls.length), ∃ u, cs[j]? = some u ∧ SlT w T u ls[j]
theorem ListsT.form {w : World} {T : Nat → Prop} {v : Value} {ls : List (List UInt8)} (h : ListsT w T v ls) : ∃ A c, v = .slice A ls.length c ∧ ls.length ≤ c ∧ c ≤ 9223372036854775807 := by
  obtain ⟨cs, h, _⟩ := h
  exact h.form
theorem ListsT.at_ {w : World} {T : Nat → Prop} {A : Option Addr} {m c : Nat} {ls : List (List UInt8)} (h : ListsT w T (.slice A m c) ls) (i : Nat) (hi : i < ls.length) :
    ∃ b off Ai ci, A = some ⟨b, off, none⟩ ∧ T b ∧ w.cell? ⟨b, off + i, none⟩ = some (.slice Ai ls[i].length ci) ∧ SlT w T (.slice Ai ls[i].length ci) ls[i] := by
  obtain ⟨cs, hr, he⟩ := h
  obtain ⟨_, _, _, b, off, rfl, hb, hc⟩ := hr.at_ (by omega)
  obtain ⟨u, hu, hs⟩ := he i hi
  have hs' := hs
  obtain ⟨Ai, ci, rfl, _⟩ := hs
  exact ⟨b, off, Ai, ci, rfl, hb, hc i _ hu, hs'⟩

/-- What int holds. -/
def inI (n : Int) : Prop := -9223372036854775808 ≤ n ∧ n ≤ 9223372036854775807

/-- An error as a value: 0 is none. -/
def er (k : Nat) : Value := if k = 0 then .nilIface else .iface 53 (.int .i64 (k : Int))
theorem er_zero : er 0 = .nilIface := rfl
theorem er_ne {k : Nat} (hk : k ≠ 0) : er k = .iface 53 (.int .i64 (k : Int)) := by unfold er; rw [if_neg hk]

end Go.Proofs.Ytojejcafahighaa.pk
