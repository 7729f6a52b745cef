/-
  Texts of the proof, joined: Sl, Std, PureE.
-/
import Derived.Test.YtfblgkcipnkhaaaGreatDoorProg
import Derived.WalkKit
import Derived.WalkSpells
import Derived.WalkLawsBesides
import Derived.Lib.Hide
import Derived.Lib.LaidTab
import Derived.Lib.AppendIntMem
import Derived.Laws.BytesArg
import Derived.Deep.Draws

/-
  Words for memory: a slice of bytes that reads as a list; an error as a value.
-/
namespace Go.Proofs.YtfblgkcipnkhaaaGreatDoor.pk
open Go Go.RowKit

/-- A slice value that reads as these bytes, in blocks below B. -/
def Sl (w : World) (B : Nat) (v : Value) (bs : List UInt8) : Prop :=
  ∃ A c, v = .slice A bs.length c ∧ bs.length ≤ c ∧ c ≤ 9223372036854775807 ∧
    (bs = [] ∨ ∃ b off, A = some ⟨b, off, none⟩ ∧ b < B ∧ ∀ j, j < bs.length → w.cell? ⟨b, off + j, none⟩ = some (.int .u8 ((bs.getD j 0).toNat : Int)))

theorem Sl.keep {w w' : World} {B : Nat} {v : Value} {bs : List UInt8} (h : Sl w B v bs) (hk : ∀ p : Addr, p.block < B → w'.cell? p = w.cell? p) : Sl w' B v bs := by
  obtain ⟨A, c, rfl, h1, h2, h3⟩ := h
  refine ⟨A, c, rfl, h1, h2, ?_⟩
  rcases h3 with h3 | ⟨b, off, rfl, hb, hc⟩
  · exact Or.inl h3
  · exact Or.inr ⟨b, off, rfl, hb, fun j hj => (hk _ hb).trans (hc j hj)⟩
theorem Sl.below {w w' : World} {B : Nat} {v : Value} {bs : List UInt8} (h : Sl w B v bs) (hb : Below B w w') : Sl w' B v bs := h.keep fun _ hp => hb.cell hp
theorem Sl.more {w : World} {B B' : Nat} {v : Value} {bs : List UInt8} (h : Sl w B v bs) (hB : B ≤ B') : Sl w B' v bs := by
  obtain ⟨A, c, rfl, h1, h2, h3⟩ := h
  refine ⟨A, c, rfl, h1, h2, ?_⟩
  rcases h3 with h3 | ⟨b, off, rfl, hb, hc⟩
  · exact Or.inl h3
  · exact Or.inr ⟨b, off, rfl, by omega, hc⟩
theorem Sl.nil_ (w : World) (B : Nat) : Sl w B (.slice none 0 0) [] := ⟨none, 0, rfl, by simp, by omega, Or.inl rfl⟩

theorem getD_drop (bs : List UInt8) (k j : Nat) : (bs.drop k).getD j 0 = bs.getD (k + j) 0 := by
  simp [List.getD]

/-- A cut 's[k:]'. -/
theorem Sl.cut {w : World} {B : Nat} {A : Option Addr} {c n : Nat} {bs : List UInt8} (h : Sl w B (.slice A n c) bs) {k : Nat} (hk : k ≤ bs.length) :
    Sl w B (.slice (if c = k then A else A.map (·.add k)) (n - k) (c - k)) (bs.drop k) := by
  obtain ⟨A', c', hv, h1, h2, h3⟩ := h
  injection hv with e1 e2 e3
  subst e1; subst e2; subst e3
  refine ⟨_, _, by rw [List.length_drop], by rw [List.length_drop]; omega, by omega, ?_⟩
  rcases h3 with h3 | ⟨b, off, rfl, hb, hc⟩
  · left; rw [h3]; simp
  · by_cases he : k = bs.length
    · left; exact List.drop_eq_nil_of_le (by omega)
    · right
      by_cases hck : c = k
      · omega
      · rw [if_neg hck]
        refine ⟨b, off + k, ?_, hb, fun j hj => ?_⟩
        · by_cases h0 : k = 0
          · subst h0; simp [Addr.add]
          · simp [Addr.add, h0]
        · rw [List.length_drop] at hj
          rw [getD_drop, Nat.add_assoc]
          exact hc (k + j) (by omega)

/-- The first byte's cell. -/
theorem Sl.head {w : World} {B : Nat} {A : Option Addr} {c n : Nat} {d : UInt8} {r : List UInt8} (h : Sl w B (.slice A n c) (d :: r)) :
    ∃ b off, A = some ⟨b, off, none⟩ ∧ b < B ∧ n = r.length + 1 ∧ r.length + 1 ≤ c ∧ c ≤ 9223372036854775807 ∧ w.cell? ⟨b, off, none⟩ = some (.int .u8 (d.toNat : Int)) := by
  obtain ⟨A', c', hv, h1, h2, h3⟩ := h
  injection hv with e1 e2 e3
  subst e1; subst e2; subst e3
  rcases h3 with h3 | ⟨b, off, rfl, hb, hc⟩
  · cases h3
  · exact ⟨b, off, rfl, hb, rfl, h1, h2, hc 0 (by simp)⟩
theorem Sl.tail_one {w : World} {B b off n : Nat} {d : UInt8} {r : List UInt8} (h : Sl w B (.slice (some ⟨b, off, none⟩) n 1) (d :: r)) : Sl w B (.slice (some ⟨b, off, none⟩) r.length 0) r := by
  have hn : n = r.length + 1 := by obtain ⟨_, _, _, _, hn, _⟩ := h.head; exact hn
  have := h.cut (k := 1) (by simp)
  rw [if_pos rfl, hn] at this
  exact this
theorem Sl.tail_more {w : World} {B b off n c : Nat} {d : UInt8} {r : List UInt8} (h : Sl w B (.slice (some ⟨b, off, none⟩) n c) (d :: r)) (hc : ¬ c = 1) : Sl w B (.slice (some ⟨b, off + 1, none⟩) r.length (c - 1)) r := by
  have hn : n = r.length + 1 := by obtain ⟨_, _, _, _, hn, _⟩ := h.head; exact hn
  have := h.cut (k := 1) (by simp)
  rw [if_neg hc, hn] at this
  exact this
theorem Sl.len {w : World} {B : Nat} {A : Option Addr} {c n : Nat} {bs : List UInt8} (h : Sl w B (.slice A n c) bs) : n = bs.length ∧ n ≤ c ∧ c ≤ 9223372036854775807 := by
  obtain ⟨A', c', hv, h1, h2, _⟩ := h
  injection hv with e1 e2 e3
  subst e1; subst e2; subst e3
  exact ⟨rfl, h1, h2⟩

theorem getD_take (bs : List UInt8) (k j : Nat) (h : j < k) : (bs.take k).getD j 0 = bs.getD j 0 := by
  simp [List.getD, h]

/-- A begin 's[:k]'. -/
theorem Sl.front {w : World} {B : Nat} {A : Option Addr} {c n : Nat} {bs : List UInt8} (h : Sl w B (.slice A n c) bs) {k : Nat} (hk : k ≤ bs.length) :
    Sl w B (.slice A k c) (bs.take k) := by
  obtain ⟨A', c', hv, h1, h2, h3⟩ := h
  injection hv with e1 e2 e3
  subst e1; subst e2; subst e3
  have hl : (bs.take k).length = k := by rw [List.length_take]; omega
  refine ⟨A, c, by rw [hl], by omega, h2, ?_⟩
  rcases h3 with h3 | ⟨b, off, rfl, hb, hc⟩
  · left; rw [h3]; simp
  · right
    refine ⟨b, off, rfl, hb, fun j hj => ?_⟩
    rw [hl] at hj
    rw [getD_take _ _ _ hj]
    exact hc j (by omega)

/-- Bytes as a text: 'string(b)'. -/
theorem conv_any {P : Program} {w : World} {B : Nat} {A : Option Addr} {c n ts td te : Nat} {bs : List UInt8} (t1 : P.underlying ts = some (.slice te)) (t2 : P.underlying te = some (.int .u8))
    (t3 : P.underlying td = some .string) (h : Sl w B (.slice A n c) bs) : (convert ts td (.slice A n c)).run P w = .ok (.string ⟨bs.toArray⟩) w := by
  obtain ⟨A', c', hv, h1, h2, h3⟩ := h
  injection hv with e1 e2 e3
  subst e1; subst e2; subst e3
  rcases h3 with h3 | ⟨b, off, rfl, hb, hc⟩
  · subst h3
    rcases A with _ | a
    · exact run_convert_bytes_nil w _ _ t1 t2 _ _ _ t3
    · rw [run_convert_bytes_string w _ _ _ _ _ _ t1 t2 t3]
      exact run_bytesToString w a _ _ [] (run_loadCells_list (P := P) w a [] (fun j v hj => by simp at hj))
  · have hr := run_convert_bytes_arg w _ _ t1 t2 b off bs.length c (bs.map fun x => (x.toNat : Int)) (by simp) (fun i hi => by
      rw [hc i hi]
      simp [List.getD, List.getElem?_eq_getElem hi]) _ t3
    rw [hr]
    congr 2
    simp [strOfNums, Function.comp_def]
theorem conv_bytes {w : World} {B : Nat} {A : Option Addr} {c n : Nat} {bs : List UInt8} (h : Sl w B (.slice A n c) bs) :
    (convert 22 9 (.slice A n c)).run Tryz.prog w = .ok (.string ⟨bs.toArray⟩) w :=
  conv_any Tryz.underlying22 Tryz.underlying5 Tryz.underlying9 h

end Go.Proofs.YtfblgkcipnkhaaaGreatDoor.pk

/-
  An error as a value; what the package-level variable holds that errors.As reads.
-/
namespace Go.Proofs.YtfblgkcipnkhaaaGreatDoor.pk
open Go Go.RowKit

/-- An error as a value: 0 is none. -/
def ev (k : Nat) : Value := if k = 0 then .nilIface else .iface 60 (.int .i64 (k : Int))

/-- What the package-level variable holds. -/
structure Std (w : World) : Prop where
  typ : w.cell? ⟨0, 0, none⟩ = some (.iface 153 (.agg #[.pointer (some ⟨6, 32, none⟩)]))
  size : 6 ≤ w.heap.size

theorem Std.below {w w' : World} {B : Nat} (h : Std w) (hB : 6 ≤ B) (hb : Below B w w') : Std w' :=
  ⟨(hb.cell (p := ⟨0, 0, none⟩) (by show 0 < B; omega)).trans h.typ, Nat.le_trans h.size hb.size⟩

end Go.Proofs.YtfblgkcipnkhaaaGreatDoor.pk

/-
  Plain mathematics of layer 9: a log of entries, and what the document says of it, as functions on lists.
-/
namespace Go.Proofs.YtfblgkcipnkhaaaGreatDoor.pk
open Go

/-- An entry, a log. -/
structure En where
  index : Int
  term : Int
  kind : Int
  data : List UInt8
structure Lg where
  base : Int
  term : Int
  l : List En
def ze : En := ⟨0, 0, 0, []⟩
def zl : Lg := ⟨0, 0, []⟩

def topI : Int := 1099511627776
/-- May the entry stand behind an index and a term? -/
def goodE (i t : Int) (e : En) : Bool := decide (e.index = i + 1 ∧ 1 ≤ e.index ∧ e.index ≤ 1099511627776 ∧ 1 ≤ e.term ∧ t ≤ e.term ∧ e.term ≤ 1099511627776 ∧ 0 ≤ e.kind ∧ e.kind ≤ 2 ∧ e.data.length ≤ 4096)
def behindE : Int → Int → List En → Bool
  | _, _, [] => true
  | i, t, e :: r => goodE i t e && behindE (i + 1) e.term r
def headE (l : Lg) : Bool := decide (0 ≤ l.base ∧ l.base ≤ 1099511627776 ∧ 0 ≤ l.term ∧ l.term ≤ 1099511627776 ∧ (l.base = 0 ↔ l.term = 0) ∧ l.l.length ≤ 4096)
def mayE (l : Lg) : Bool := headE l && behindE l.base l.term l.l
/-- The last entry's index and term, of a log that may be. -/
def endE (l : Lg) : Int × Int := match l.l.getLast? with
  | none => (l.base, l.term)
  | some e => (e.index, e.term)
def lastE (l : Lg) : Int × Int := if mayE l = true then endE l else (0, 0)
def termE (l : Lg) (i : Int) : Int × Nat :=
  if mayE l = false then (0, 1) else if i < 0 ∨ (endE l).1 < i then (0, 8) else if i < l.base then (0, 22) else if i = l.base then (l.term, 0) else ((l.l.getD (i - l.base - 1).toNat ze).term, 0)
def atE (l : Lg) (i : Int) : En × Nat :=
  if mayE l = false then (ze, 1) else if i < 1 ∨ (endE l).1 < i then (ze, 8) else if i ≤ l.base then (ze, 22) else (l.l.getD (i - l.base - 1).toNat ze, 0)
def fromE (l : Lg) (i most : Int) : List En := if mayE l = false ∨ i ≤ l.base then [] else (l.l.drop (i - l.base - 1).toNat).take most.toNat
def compactE (l : Lg) (i : Int) : Lg × Nat := if (termE l i).2 = 0 then (⟨i, (termE l i).1, l.l.drop (i - l.base).toNat⟩, 0) else (zl, (termE l i).2)
def newerE (l : Lg) (i t : Int) : Bool := mayE l && decide ((lastE l).2 < t ∨ t = (lastE l).2 ∧ (lastE l).1 ≤ i)
def addE (l : Lg) (t k : Int) (d : List UInt8) : Lg × Nat :=
  if mayE l = false ∨ t < (endE l).2 ∨ t < 1 ∨ 1099511627776 < t ∨ k < 0 ∨ 2 < k ∨ (endE l).1 = 1099511627776 then (zl, 1) else if 4096 < d.length then (zl, 2) else if 4095 < l.l.length then (zl, 10)
  else (⟨l.base, l.term, l.l ++ [⟨(endE l).1 + 1, t, k, d⟩]⟩, 0)
/-- Entries over others: as long as they are of the same terms the first ones stay. -/
def overE : List En → List En → List En
  | old, [] => old
  | [], e :: r => e :: r
  | o :: old, e :: r => if o.term = e.term then o :: overE old r else e :: r
/-- The log behind a merge, of logs that are not long; none: it was not merged. -/
def mergedE (l : Lg) (i : Int) (more : List En) : Lg := ⟨l.base, l.term, l.l.take (i - l.base).toNat ++ overE (l.l.drop (i - l.base).toNat) (more.drop (l.base - i).toNat)⟩
def mergeE (l : Lg) (i t : Int) (more : List En) : Option (Lg × Int) :=
  if mayE l = false ∨ i < 0 ∨ behindE i t more = false ∨ (endE l).1 < i ∨ (l.base < i ∧ (l.l.getD (i - l.base - 1).toNat ze).term ≠ t) then none
  else if mayE (mergedE l i more) = true then some (mergedE l i more, max (i + more.length) l.base) else none

theorem goodE_iff {i t : Int} {e : En} : goodE i t e = true ↔ e.index = i + 1 ∧ 1 ≤ e.index ∧ e.index ≤ 1099511627776 ∧ 1 ≤ e.term ∧ t ≤ e.term ∧ e.term ≤ 1099511627776 ∧ 0 ≤ e.kind ∧ e.kind ≤ 2 ∧ e.data.length ≤ 4096 := by
  unfold goodE; exact decide_eq_true_iff
theorem headE_iff {l : Lg} : headE l = true ↔ 0 ≤ l.base ∧ l.base ≤ 1099511627776 ∧ 0 ≤ l.term ∧ l.term ≤ 1099511627776 ∧ (l.base = 0 ↔ l.term = 0) ∧ l.l.length ≤ 4096 := by
  unfold headE; exact decide_eq_true_iff
theorem mayE_iff {l : Lg} : mayE l = true ↔ headE l = true ∧ behindE l.base l.term l.l = true := by
  unfold mayE; rw [Bool.and_eq_true]
theorem behindE_cons {i t : Int} {e : En} {r : List En} : behindE i t (e :: r) = true ↔ goodE i t e = true ∧ behindE (i + 1) e.term r = true := by
  show (goodE i t e && behindE (i + 1) e.term r) = true ↔ _
  rw [Bool.and_eq_true]
theorem behindE_at : ∀ {l : List En} {i t : Int}, behindE i t l = true → ∀ (j : Nat) (h : j < l.length), l[j].index = i + 1 + j ∧ 1 ≤ l[j].index ∧ l[j].index ≤ 1099511627776 ∧ 1 ≤ l[j].term ∧ t ≤ l[j].term ∧ l[j].term ≤ 1099511627776 ∧ 0 ≤ l[j].kind ∧ l[j].kind ≤ 2 ∧ l[j].data.length ≤ 4096
  | e :: r, i, t, h, 0, _ => by
    have h1 := goodE_iff.1 (behindE_cons.1 h).1
    simp only [List.getElem_cons_zero]
    refine ⟨by omega, h1.2⟩
  | e :: r, i, t, h, j + 1, hj => by
    have h1 := goodE_iff.1 (behindE_cons.1 h).1
    have h2 := behindE_at (behindE_cons.1 h).2 j (by simpa using hj)
    simp only [List.getElem_cons_succ]
    refine ⟨by omega, h2.2.1, h2.2.2.1, h2.2.2.2.1, by omega, h2.2.2.2.2.2⟩
theorem behindE_append : ∀ {a b : List En} {i t : Int}, behindE i t (a ++ b) = true ↔ behindE i t a = true ∧ behindE (i + a.length) (match a.getLast? with | none => t | some e => e.term) b = true
  | [], b, i, t => by simp [behindE]
  | e :: r, b, i, t => by
    rw [List.cons_append, behindE_cons, behindE_cons, behindE_append (a := r) (b := b), and_assoc]
    have e1 : i + 1 + (r.length : Int) = i + ((e :: r).length : Int) := by rw [List.length_cons]; omega
    have e2 : (match r.getLast? with | none => e.term | some x => x.term) = (match (e :: r).getLast? with | none => t | some x => x.term) := by
      cases r with
      | nil => rfl
      | cons x r => simp [List.getLast?_cons]
    rw [e1, e2]
/-- The last index of a log that may be. -/
theorem endE_index {l : Lg} (h : mayE l = true) : (endE l).1 = l.base + l.l.length := by
  have hb := (mayE_iff.1 h).2
  unfold endE
  cases hg : l.l.getLast? with
  | none => rw [List.getLast?_eq_none_iff] at hg; simp [hg]
  | some e =>
    simp only
    have hne : l.l ≠ [] := by intro hn; rw [hn] at hg; cases hg
    have hl : 0 < l.l.length := List.length_pos_iff.2 hne
    rw [List.getLast?_eq_getElem?, List.getElem?_eq_some_iff] at hg
    obtain ⟨hj, rfl⟩ := hg
    have := (behindE_at hb (l.l.length - 1) hj).1
    omega
theorem overE_nil (old : List En) : overE old [] = old := by cases old <;> rfl
theorem overE_cons (o e : En) (old r : List En) : overE (o :: old) (e :: r) = if o.term = e.term then o :: overE old r else e :: r := rfl
/-- Each of the new ones stands at its place, with its term. -/
theorem overE_new : ∀ (old new : List En) (j : Nat) (h : j < new.length), ∃ x, (overE old new)[j]? = some x ∧ x.term = new[j].term
  | _, [], j, h => by simp at h
  | [], e :: r, j, h => ⟨_, List.getElem?_eq_getElem h, rfl⟩
  | o :: old, e :: r, j, h => by
    rw [overE_cons]
    by_cases ht : o.term = e.term
    · rw [if_pos ht]
      cases j with
      | zero => exact ⟨o, rfl, ht⟩
      | succ j =>
        obtain ⟨x, h', hx⟩ := overE_new old r j (by simpa using h)
        exact ⟨x, by simpa using h', by simpa using hx⟩
    · rw [if_neg ht]
      exact ⟨_, List.getElem?_eq_getElem h, rfl⟩
theorem overE_len (old new : List En) : new.length ≤ (overE old new).length := by
  by_cases h : new.length = 0
  · omega
  · obtain ⟨x, hx, -⟩ := overE_new old new (new.length - 1) (by omega)
    have := (List.getElem?_eq_some_iff.1 hx).1
    omega
/-- Laid over again they change nothing more. -/
theorem overE_again : ∀ (old new : List En), overE (overE old new) new = overE old new
  | old, [] => by rw [overE_nil, overE_nil]
  | [], e :: r => by
    show overE (e :: r) (e :: r) = e :: r
    have : ∀ l : List En, overE l l = l := by
      intro l
      induction l with
      | nil => rfl
      | cons x l ih => unfold overE; rw [if_pos rfl, ih]
    exact this _
  | o :: old, e :: r => by
    have hl : ∀ l : List En, overE l l = l := by
      intro l
      induction l with
      | nil => rfl
      | cons x l ih => unfold overE; rw [if_pos rfl, ih]
    by_cases ht : o.term = e.term
    · have e1 : overE (o :: old) (e :: r) = o :: overE old r := by
        show (if o.term = e.term then _ else _) = _
        rw [if_pos ht]
      rw [e1]
      show (if o.term = e.term then o :: overE (overE old r) r else _) = _
      rw [if_pos ht, overE_again old r]
    · have e1 : overE (o :: old) (e :: r) = e :: r := by
        show (if o.term = e.term then _ else _) = _
        rw [if_neg ht]
      rw [e1]
      exact hl _

theorem merge_some {l m : Lg} {i t n : Int} {more : List En} (h : mergeE l i t more = some (m, n)) :
    mayE l = true ∧ 0 ≤ i ∧ behindE i t more = true ∧ i ≤ l.base + l.l.length ∧ (l.base < i → (l.l.getD (i - l.base - 1).toNat ze).term = t) ∧ m = mergedE l i more ∧ mayE m = true ∧ n = max (i + more.length) l.base := by
  unfold mergeE at h
  split at h
  · cases h
  · rename_i hc
    split at h
    · rename_i hm
      simp only [Option.some.injEq, Prod.mk.injEq] at h
      obtain ⟨rfl, rfl⟩ := h
      have h1 : mayE l = true := by
        cases hx : mayE l with
        | true => rfl
        | false => exact absurd (Or.inl hx) hc
      have h2 : ¬ i < 0 := fun h => hc (Or.inr (Or.inl h))
      have h3 : behindE i t more = true := by
        cases hx : behindE i t more with
        | true => rfl
        | false => exact absurd (Or.inr (Or.inr (Or.inl hx))) hc
      have h4 : ¬ (endE l).1 < i := fun h => hc (Or.inr (Or.inr (Or.inr (Or.inl h))))
      rw [endE_index h1] at h4
      refine ⟨h1, by omega, h3, by omega, fun hb => ?_, rfl, hm, rfl⟩
      exact Classical.byContradiction fun hn => hc (Or.inr (Or.inr (Or.inr (Or.inr ⟨hb, hn⟩))))
    · cases h

/-- The log behind a merge has the leader's entries. -/
theorem merge_terms {l m : Lg} {i t n : Int} {more : List En} (h : mergeE l i t more = some (m, n)) {j : Nat} (hj : j < more.length) (hb : l.base < more[j].index) : termE m more[j].index = (more[j].term, 0) := by
  obtain ⟨h1, h2, h3, h4, h5, rfl, h7, rfl⟩ := merge_some h
  have hx := behindE_at h3 j hj
  have hh := headE_iff.1 (mayE_iff.1 h1).1
  have hlen : (mergedE l i more).l.length = (i - l.base).toNat + (overE (l.l.drop (i - l.base).toNat) (more.drop (l.base - i).toNat)).length := by
    show (_ ++ _ : List En).length = _
    rw [List.length_append, List.length_take, Nat.min_eq_left (by omega)]
  have hjd : j - (l.base - i).toNat < (more.drop (l.base - i).toNat).length := by rw [List.length_drop]; omega
  obtain ⟨x, hx0, ht⟩ := overE_new (l.l.drop (i - l.base).toNat) (more.drop (l.base - i).toNat) _ hjd
  have h' := (List.getElem?_eq_some_iff.1 hx0).1
  have hb' : (mergedE l i more).base = l.base := rfl
  unfold termE
  rw [h7, endE_index h7, hb']
  rw [if_neg (by simp), if_neg (by omega), if_neg (by omega), if_neg (by omega)]
  congr 1
  have e1 : (more[j].index - l.base - 1).toNat = (l.l.take (i - l.base).toNat).length + (j - (l.base - i).toNat) := by rw [List.length_take]; omega
  have e2 : (mergedE l i more).l.getD (more[j].index - l.base - 1).toNat ze = x := by
    rw [e1]
    show (_ ++ _ : List En).getD _ ze = _
    rw [List.getD, List.getElem?_append_right (by omega), Nat.add_sub_cancel_left, hx0]
    rfl
  rw [e2, ht]
  simp only [List.getElem_drop]
  congr 2
  omega
/-- Merged again it is the same. -/
theorem merge_again {l m : Lg} {i t n : Int} {more : List En} (h : mergeE l i t more = some (m, n)) : mergeE m i t more = some (m, n) := by
  obtain ⟨h1, h2, h3, h4, h5, rfl, h7, rfl⟩ := merge_some h
  have hlen : (l.l.take (i - l.base).toNat).length = (i - l.base).toNat := by rw [List.length_take]; omega
  have hsame : mergedE (mergedE l i more) i more = mergedE l i more := by
    show (⟨l.base, l.term, (l.l.take (i - l.base).toNat ++ overE (l.l.drop (i - l.base).toNat) (more.drop (l.base - i).toNat)).take (i - l.base).toNat ++ overE ((l.l.take (i - l.base).toNat ++ overE (l.l.drop (i - l.base).toNat) (more.drop (l.base - i).toNat)).drop (i - l.base).toNat) (more.drop (l.base - i).toNat)⟩ : Lg) = ⟨l.base, l.term, l.l.take (i - l.base).toNat ++ overE (l.l.drop (i - l.base).toNat) (more.drop (l.base - i).toNat)⟩
    congr 1
    rw [List.take_left' hlen, List.drop_left' hlen, overE_again]
  have hend : ¬ (endE (mergedE l i more)).1 < i := by
    rw [endE_index h7]
    have : (mergedE l i more).l.length = (l.l.take (i - l.base).toNat ++ overE (l.l.drop (i - l.base).toNat) (more.drop (l.base - i).toNat)).length := rfl
    rw [this, List.length_append, hlen]
    have : (mergedE l i more).base = l.base := rfl
    omega
  have hterm : ¬ ((mergedE l i more).base < i ∧ ((mergedE l i more).l.getD (i - (mergedE l i more).base - 1).toNat ze).term ≠ t) := by
    rintro ⟨hb, hn⟩
    have hb' : l.base < i := hb
    apply hn
    rw [← h5 hb']
    have : (mergedE l i more).l = l.l.take (i - l.base).toNat ++ overE (l.l.drop (i - l.base).toNat) (more.drop (l.base - i).toNat) := rfl
    rw [this, show (mergedE l i more).base = l.base from rfl, List.getD, List.getD, List.getElem?_append_left (by omega), List.getElem?_take, if_pos (by omega)]
  unfold mergeE
  rw [if_neg (by
    rintro (hc | hc | hc | hc | hc)
    · rw [h7] at hc; cases hc
    · omega
    · rw [h3] at hc; cases hc
    · exact hend hc
    · exact hterm hc), hsame, if_pos h7]
  rfl

/-- A log of which the first entries are let go. -/
theorem compact_may {l : Lg} {i : Int} (h : mayE l = true) (hi : l.base ≤ i) (hn : i ≤ l.base + l.l.length) (m : Lg) (hm : m = (compactE l i).1) :
    compactE l i = (m, 0) ∧ m.base = i ∧ mayE m = true ∧ endE m = endE l ∧ ∀ k : Int, i ≤ k → k ≤ l.base + l.l.length → termE m k = termE l k ∧ (termE l k).2 = 0 := by
  have hh := headE_iff.1 (mayE_iff.1 h).1
  have hb := (mayE_iff.1 h).2
  have ht0 : (termE l i).2 = 0 := by
    unfold termE
    rw [h, endE_index h, if_neg (by simp), if_neg (by omega), if_neg (by omega)]
    split <;> rfl
  have hc : compactE l i = (⟨i, (termE l i).1, l.l.drop (i - l.base).toNat⟩, 0) := by unfold compactE; rw [if_pos ht0]
  rw [hc] at hm
  subst hm
  have hsplit := List.take_append_drop (i - l.base).toNat l.l
  have hb2 := hb
  rw [← hsplit, behindE_append] at hb2
  obtain ⟨ha1, ha2⟩ := hb2
  have htl : (l.l.take (i - l.base).toNat).length = (i - l.base).toNat := by rw [List.length_take]; omega
  have hti : (termE l i).1 = match (l.l.take (i - l.base).toNat).getLast? with | none => l.term | some e => e.term := by
    unfold termE
    rw [h, endE_index h, if_neg (by simp), if_neg (by omega), if_neg (by omega)]
    by_cases he : i = l.base
    · rw [if_pos he, he]; simp
    · rw [if_neg he]
      rw [List.getLast?_eq_getElem?, htl, List.getElem?_take, if_pos (by omega), List.getD]
      have e1 : (i - l.base - 1).toNat = (i - l.base).toNat - 1 := by omega
      rw [e1, List.getElem?_eq_getElem (by omega)]
      rfl
  have hbase : l.base + ((l.l.take (i - l.base).toNat).length : Int) = i := by rw [htl]; omega
  rw [hbase, ← hti] at ha2
  have htr : 0 ≤ (termE l i).1 ∧ (termE l i).1 ≤ 1099511627776 ∧ (i = 0 ↔ (termE l i).1 = 0) := by
    rw [hti, List.getLast?_eq_getElem?, htl]
    by_cases he : i = l.base
    · have : (i - l.base).toNat = 0 := by omega
      rw [this]
      simp only [List.take_zero, List.getElem?_nil]
      omega
    · have hlt : (i - l.base).toNat - 1 < l.l.length := by omega
      rw [List.getElem?_take, if_pos (by omega), List.getElem?_eq_getElem hlt]
      have := behindE_at hb _ hlt
      simp only
      omega
  have hmay : mayE ⟨i, (termE l i).1, l.l.drop (i - l.base).toNat⟩ = true := by
    refine mayE_iff.2 ⟨headE_iff.2 ⟨?_, ?_, htr.1, htr.2.1, htr.2.2, ?_⟩, ha2⟩
    · simp only; omega
    · show i ≤ _
      by_cases he : i = l.base
      · omega
      · have hlt : (i - l.base).toNat - 1 < l.l.length := by omega
        have := behindE_at hb _ hlt
        omega
    · show (l.l.drop _).length ≤ _
      rw [List.length_drop]; omega
  have hend : endE ⟨i, (termE l i).1, l.l.drop (i - l.base).toNat⟩ = endE l := by
    unfold endE
    simp only
    by_cases hz : (i - l.base).toNat < l.l.length
    · have : (l.l.drop (i - l.base).toNat).getLast? = l.l.getLast? := by
        rw [List.getLast?_drop, if_neg (by omega)]
      rw [this]
      cases hg : l.l.getLast? with
      | none => rw [List.getLast?_eq_none_iff] at hg; rw [hg] at hz; simp at hz
      | some e => rfl
    · rw [List.drop_eq_nil_of_le (by omega), hti]
      have hall : l.l.take (i - l.base).toNat = l.l := List.take_of_length_le (by omega)
      rw [hall]
      cases hg : l.l.getLast? with
      | none =>
        rw [List.getLast?_eq_none_iff] at hg
        rw [hg] at hn
        simp at hn ⊢
        omega
      | some e =>
        have := endE_index h
        unfold endE at this
        rw [hg] at this
        simp only at this ⊢
        rw [this]
        simp only [List.getLast?_nil, Prod.mk.injEq, and_true]
        omega
  refine ⟨hc, rfl, hmay, hend, fun k h1 h2 => ?_⟩
  have hkt : termE ⟨i, (termE l i).1, l.l.drop (i - l.base).toNat⟩ k = termE l k := by
    have hl : ∀ x : Int, x = (termE l i).1 → termE ⟨i, x, l.l.drop (i - l.base).toNat⟩ k = if k = i then (x, 0) else (((l.l.drop (i - l.base).toNat).getD (k - i - 1).toNat ze).term, 0) := by
      intro x hx
      unfold termE
      subst hx
      rw [hmay, hend, endE_index h, if_neg (by simp), if_neg (by omega), if_neg (by simp only; omega)]
    rw [hl _ rfl]
    have hr : termE l k = if k = l.base then (l.term, 0) else ((l.l.getD (k - l.base - 1).toNat ze).term, 0) := by
      unfold termE
      rw [h, endE_index h, if_neg (by simp), if_neg (by omega), if_neg (by omega)]
    by_cases he : k = i
    · rw [if_pos he, he]
      refine Prod.ext rfl ht0.symm
    · rw [if_neg he, hr, if_neg (by omega)]
      simp only [List.getD, List.getElem?_drop]
      congr 4
      omega
  refine ⟨hkt, ?_⟩
  unfold termE
  rw [h, endE_index h, if_neg (by simp), if_neg (by omega), if_neg (by omega)]
  split <;> rfl

theorem termE_bound {l : Lg} {i : Int} (h : (termE l i).2 = 0) : mayE l = true ∧ l.base ≤ i ∧ i ≤ l.base + l.l.length ∧ 0 ≤ i := by
  unfold termE at h
  by_cases c0 : mayE l = false
  · rw [if_pos c0] at h; cases h
  · have hm : mayE l = true := by cases hx : mayE l; exact absurd hx c0; rfl
    rw [if_neg c0] at h
    by_cases c1 : i < 0 ∨ (endE l).1 < i
    · rw [if_pos c1] at h; cases h
    · rw [if_neg c1] at h
      have he := endE_index hm
      by_cases c2 : i < l.base
      · rw [if_pos c2] at h; cases h
      · exact ⟨hm, by omega, by omega, by omega⟩

end Go.Proofs.YtfblgkcipnkhaaaGreatDoor.pk
