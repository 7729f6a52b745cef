import Derived.Test.YtncaefocijainaaGreatDoorProg
import Derived.WalkKit
import Derived.WalkSpells
import Derived.WalkLawsBesides
import Derived.Lib.Hide
import Derived.Lib.LaidTab
import Derived.Lib.AppendIntMem
import Derived.Laws.BytesArg
import Derived.Deep.Draws
namespace Go.Proofs.YtncaefocijainaaGreatDoor.pk
section
open Go Go.RowKit
def Sl (w : World) (B : Nat) (v : Value) (bs : List UInt8) : Prop :=
 ∃ A c, v = .slice A bs.length c ∧ bs.length ≤ c ∧ c ≤ 9223372036854775807 ∧
   (bs = [] ∨ ∃ b off, A = some ⟨b, off, none⟩ ∧ b < B ∧ ∀ j, j < bs.length → w.cell? ⟨b, off + j, none⟩ = some (.int .u8 ((bs.getD j 0).toNat : Int)))
theorem Sl.keep {w w' : World} {B : Nat} {v : Value} {bs : List UInt8} (h : Sl w B v bs) (hk : ∀ p : Addr, p.block < B → w'.cell? p = w.cell? p) : Sl w' B v bs := by
 obtain ⟨A, c, rfl, h1, h2, h3⟩ := h
 refine ⟨A, c, rfl, h1, h2, ?_⟩
 rcases h3 with h3 | ⟨b, off, rfl, hb, hc⟩
 · exact Or.inl h3
 · exact Or.inr ⟨b, off, rfl, hb, fun j hj => (hk _ hb).trans (hc j hj)⟩
theorem Sl.below {w w' : World} {B : Nat} {v : Value} {bs : List UInt8} (h : Sl w B v bs) (hb : Below B w w') : Sl w' B v bs := h.keep fun _ hp => hb.cell hp
theorem Sl.more {w : World} {B B' : Nat} {v : Value} {bs : List UInt8} (h : Sl w B v bs) (hB : B ≤ B') : Sl w B' v bs := by
 obtain ⟨A, c, rfl, h1, h2, h3⟩ := h
 refine ⟨A, c, rfl, h1, h2, ?_⟩
 rcases h3 with h3 | ⟨b, off, rfl, hb, hc⟩
 · exact Or.inl h3
 · exact Or.inr ⟨b, off, rfl, by omega, hc⟩
theorem Sl.nil_ (w : World) (B : Nat) : Sl w B (.slice none 0 0) [] := ⟨none, 0, rfl, by simp, by omega, Or.inl rfl⟩
theorem getD_drop (bs : List UInt8) (k j : Nat) : (bs.drop k).getD j 0 = bs.getD (k + j) 0 := by
 simp [List.getD]
theorem Sl.cut {w : World} {B : Nat} {A : Option Addr} {c n : Nat} {bs : List UInt8} (h : Sl w B (.slice A n c) bs) {k : Nat} (hk : k ≤ bs.length) :
   Sl w B (.slice (if c = k then A else A.map (·.add k)) (n - k) (c - k)) (bs.drop k) := by
 obtain ⟨A', c', hv, h1, h2, h3⟩ := h
 injection hv with e1 e2 e3
 subst e1; subst e2; subst e3
 refine ⟨_, _, by rw [List.length_drop], by rw [List.length_drop]; omega, by omega, ?_⟩
 rcases h3 with h3 | ⟨b, off, rfl, hb, hc⟩
 · left; rw [h3]; simp
 · by_cases he : k = bs.length
   · left; exact List.drop_eq_nil_of_le (by omega)
   · right
     by_cases hck : c = k
     · omega
     · rw [if_neg hck]
       refine ⟨b, off + k, ?_, hb, fun j hj => ?_⟩
       · by_cases h0 : k = 0
         · subst h0; simp [Addr.add]
         · simp [Addr.add, h0]
       · rw [List.length_drop] at hj
         rw [getD_drop, Nat.add_assoc]
         exact hc (k + j) (by omega)
theorem Sl.head {w : World} {B : Nat} {A : Option Addr} {c n : Nat} {d : UInt8} {r : List UInt8} (h : Sl w B (.slice A n c) (d :: r)) :
   ∃ b off, A = some ⟨b, off, none⟩ ∧ b < B ∧ n = r.length + 1 ∧ r.length + 1 ≤ c ∧ c ≤ 9223372036854775807 ∧ w.cell? ⟨b, off, none⟩ = some (.int .u8 (d.toNat : Int)) := by
 obtain ⟨A', c', hv, h1, h2, h3⟩ := h
 injection hv with e1 e2 e3
 subst e1; subst e2; subst e3
 rcases h3 with h3 | ⟨b, off, rfl, hb, hc⟩
 · cases h3
 · exact ⟨b, off, rfl, hb, rfl, h1, h2, hc 0 (by simp)⟩
theorem Sl.len {w : World} {B : Nat} {A : Option Addr} {c n : Nat} {bs : List UInt8} (h : Sl w B (.slice A n c) bs) : n = bs.length ∧ n ≤ c ∧ c ≤ 9223372036854775807 := by
 obtain ⟨A', c', hv, h1, h2, _⟩ := h
 injection hv with e1 e2 e3
 subst e1; subst e2; subst e3
 exact ⟨rfl, h1, h2⟩
theorem getD_take (bs : List UInt8) (k j : Nat) (h : j < k) : (bs.take k).getD j 0 = bs.getD j 0 := by
 simp [List.getD, h]
theorem Sl.front {w : World} {B : Nat} {A : Option Addr} {c n : Nat} {bs : List UInt8} (h : Sl w B (.slice A n c) bs) {k : Nat} (hk : k ≤ bs.length) :
   Sl w B (.slice A k c) (bs.take k) := by
 obtain ⟨A', c', hv, h1, h2, h3⟩ := h
 injection hv with e1 e2 e3
 subst e1; subst e2; subst e3
 have hl : (bs.take k).length = k := by rw [List.length_take]; omega
 refine ⟨A, c, by rw [hl], by omega, h2, ?_⟩
 rcases h3 with h3 | ⟨b, off, rfl, hb, hc⟩
 · left; rw [h3]; simp
 · right
   refine ⟨b, off, rfl, hb, fun j hj => ?_⟩
   rw [hl] at hj
   rw [getD_take _ _ _ hj]
   exact hc j (by omega)
theorem conv_any {P : Program} {w : World} {B : Nat} {A : Option Addr} {c n ts td te : Nat} {bs : List UInt8} (t1 : P.underlying ts = some (.slice te)) (t2 : P.underlying te = some (.int .u8))
   (t3 : P.underlying td = some .string) (h : Sl w B (.slice A n c) bs) : (convert ts td (.slice A n c)).run P w = .ok (.string ⟨bs.toArray⟩) w := by
 obtain ⟨A', c', hv, h1, h2, h3⟩ := h
 injection hv with e1 e2 e3
 subst e1; subst e2; subst e3
 rcases h3 with h3 | ⟨b, off, rfl, hb, hc⟩
 · subst h3
   rcases A with _ | a
   · exact run_convert_bytes_nil w _ _ t1 t2 _ _ _ t3
   · rw [run_convert_bytes_string w _ _ _ _ _ _ t1 t2 t3]
     exact run_bytesToString w a _ _ [] (run_loadCells_list (P := P) w a [] (fun j v hj => by simp at hj))
 · have hr := run_convert_bytes_arg w _ _ t1 t2 b off bs.length c (bs.map fun x => (x.toNat : Int)) (by simp) (fun i hi => by
     rw [hc i hi]
     simp [List.getD, List.getElem?_eq_getElem hi]) _ t3
   rw [hr]
   congr 2
   simp [strOfNums, Function.comp_def]
theorem conv_bytes {w : World} {B : Nat} {A : Option Addr} {c n : Nat} {bs : List UInt8} (h : Sl w B (.slice A n c) bs) :
   (convert 33 9 (.slice A n c)).run Tryz.prog w = .ok (.string ⟨bs.toArray⟩) w :=
 conv_any Tryz.underlying33 Tryz.underlying5 Tryz.underlying9 h
theorem jI {p : Prop} (h : p) : Hid p := Lib.hid h
theorem jA {a b : Prop} (x : a) (y : b) : a ∧ b := ⟨x, y⟩
theorem qA {α : Type} {l : List α} {i : Nat} {a : α} : l.toArray.setIfInBounds i a = (l.set i a).toArray := List.setIfInBounds_toArray ..
theorem qB {α : Type} {x : α} {xs : List α} {a : α} : (x :: xs).set 0 a = a :: xs := List.set_cons_zero
theorem qC {α : Type} {x : α} {xs : List α} {n : Nat} {a : α} : (x :: xs).set (n + 1) a = x :: xs.set n a := List.set_cons_succ
end
section
open Go
structure En where
 index : Int
 term : Int
 kind : Int
 data : List UInt8
structure Lg where
 base : Int
 term : Int
 l : List En
def ze : En := ⟨0, 0, 0, []⟩
def zl : Lg := ⟨0, 0, []⟩
def goodE (i t : Int) (e : En) : Bool := decide (e.index = i + 1 ∧ 1 ≤ e.index ∧ e.index ≤ 1099511627776 ∧ 1 ≤ e.term ∧ t ≤ e.term ∧ e.term ≤ 1099511627776 ∧ 0 ≤ e.kind ∧ e.kind ≤ 2 ∧ e.data.length ≤ 4096)
def behindE : Int → Int → List En → Bool
 | _, _, [] => true
 | i, t, e :: r => goodE i t e && behindE (i + 1) e.term r
def headE (l : Lg) : Bool := decide (0 ≤ l.base ∧ l.base ≤ 1099511627776 ∧ 0 ≤ l.term ∧ l.term ≤ 1099511627776 ∧ (l.base = 0 ↔ l.term = 0) ∧ l.l.length ≤ 4096)
def mayE (l : Lg) : Bool := headE l && behindE l.base l.term l.l
def endE (l : Lg) : Int × Int := match l.l.getLast? with
 | none => (l.base, l.term)
 | some e => (e.index, e.term)
def lastE (l : Lg) : Int × Int := if mayE l = true then endE l else (0, 0)
def termE (l : Lg) (i : Int) : Int × Nat :=
 if mayE l = false then (0, 1) else if i < 0 ∨ (endE l).1 < i then (0, 8) else if i < l.base then (0, 22) else if i = l.base then (l.term, 0) else ((l.l.getD (i - l.base - 1).toNat ze).term, 0)
def fromE (l : Lg) (i most : Int) : List En := if mayE l = false ∨ i ≤ l.base then [] else (l.l.drop (i - l.base - 1).toNat).take most.toNat
def addE (l : Lg) (t k : Int) (d : List UInt8) : Lg × Nat :=
 if mayE l = false ∨ t < (endE l).2 ∨ t < 1 ∨ 1099511627776 < t ∨ k < 0 ∨ 2 < k ∨ (endE l).1 = 1099511627776 then (zl, 1) else if 4096 < d.length then (zl, 2) else if 4095 < l.l.length then (zl, 10)
 else (⟨l.base, l.term, l.l ++ [⟨(endE l).1 + 1, t, k, d⟩]⟩, 0)
theorem goodE_iff {i t : Int} {e : En} : goodE i t e = true ↔ e.index = i + 1 ∧ 1 ≤ e.index ∧ e.index ≤ 1099511627776 ∧ 1 ≤ e.term ∧ t ≤ e.term ∧ e.term ≤ 1099511627776 ∧ 0 ≤ e.kind ∧ e.kind ≤ 2 ∧ e.data.length ≤ 4096 := by
 unfold goodE; exact decide_eq_true_iff
theorem headE_iff {l : Lg} : headE l = true ↔ 0 ≤ l.base ∧ l.base ≤ 1099511627776 ∧ 0 ≤ l.term ∧ l.term ≤ 1099511627776 ∧ (l.base = 0 ↔ l.term = 0) ∧ l.l.length ≤ 4096 := by
 unfold headE; exact decide_eq_true_iff
theorem mayE_iff {l : Lg} : mayE l = true ↔ headE l = true ∧ behindE l.base l.term l.l = true := by
 unfold mayE; rw [Bool.and_eq_true]
theorem behindE_cons {i t : Int} {e : En} {r : List En} : behindE i t (e :: r) = true ↔ goodE i t e = true ∧ behindE (i + 1) e.term r = true := by
 show (goodE i t e && behindE (i + 1) e.term r) = true ↔ _
 rw [Bool.and_eq_true]
theorem behindE_at : ∀ {l : List En} {i t : Int}, behindE i t l = true → ∀ (j : Nat) (h : j < l.length), l[j].index = i + 1 + j ∧ 1 ≤ l[j].index ∧ l[j].index ≤ 1099511627776 ∧ 1 ≤ l[j].term ∧ t ≤ l[j].term ∧ l[j].term ≤ 1099511627776 ∧ 0 ≤ l[j].kind ∧ l[j].kind ≤ 2 ∧ l[j].data.length ≤ 4096
 | e :: r, i, t, h, 0, _ => by
   have h1 := goodE_iff.1 (behindE_cons.1 h).1
   simp only [List.getElem_cons_zero]
   refine ⟨by omega, h1.2⟩
 | e :: r, i, t, h, j + 1, hj => by
   have h1 := goodE_iff.1 (behindE_cons.1 h).1
   have h2 := behindE_at (behindE_cons.1 h).2 j (by simpa using hj)
   simp only [List.getElem_cons_succ]
   refine ⟨by omega, h2.2.1, h2.2.2.1, h2.2.2.2.1, by omega, h2.2.2.2.2.2⟩
theorem endE_index {l : Lg} (h : mayE l = true) : (endE l).1 = l.base + l.l.length := by
 have hb := (mayE_iff.1 h).2
 unfold endE
 cases hg : l.l.getLast? with
 | none => rw [List.getLast?_eq_none_iff] at hg; simp [hg]
 | some e =>
   simp only
   have hne : l.l ≠ [] := by intro hn; rw [hn] at hg; cases hg
   have hl : 0 < l.l.length := List.length_pos_iff.2 hne
   rw [List.getLast?_eq_getElem?, List.getElem?_eq_some_iff] at hg
   obtain ⟨hj, rfl⟩ := hg
   have := (behindE_at hb (l.l.length - 1) hj).1
   omega
end
section
open Go Go.RowKit
def ev (k : Nat) : Value := if k = 0 then .nilIface else .iface 69 (.int .i64 (k : Int))
structure Std (w : World) : Prop where
 typ : w.cell? ⟨0, 0, none⟩ = some (.iface 188 (.agg #[.pointer (some ⟨6, 27, none⟩)]))
 size : 6 ≤ w.heap.size
theorem Std.below {w w' : World} {B : Nat} (h : Std w) (hB : 6 ≤ B) (hb : Below B w w') : Std w' :=
 ⟨(hb.cell (p := ⟨0, 0, none⟩) (by show 0 < B; omega)).trans h.typ, Nat.le_trans h.size hb.size⟩
end
end Go.Proofs.YtncaefocijainaaGreatDoor.pk
