/-
  What holds in TapeRuns' loop.
-/
import Derived.Test.YthcikgbnenfjpaaDoorTSafeP
import Derived.Test.YthcikgbnenfjpaaDoorTOpA
import Derived.Test.YthcikgbnenfjpaaDoorMineF
namespace Go.Proofs.YthcikgbnenfjpaaDoor.pk
open Go Go.RowKit
set_option maxRecDepth 100000

/-- The tape, the law's own copy of its area, and the edges. -/
structure RunsI (C : ConD) (w0 W : World) (S : Nat → Prop) (q p : Nat) (v : Value) (sz m : Nat) (b : List UInt8) (d : Dk) (t : Tm) (l : List (List UInt8)) : Prop where
  lt : LT C w0 W S q p d t
  st : TState d t l
  at0 : t.at_ = 1
  len : t.len = sz
  arm : d.armed < 0
  row : W.ownsRow w0.heap.size 5 1 v sz (Lib.byteCells (areaT d.B 1 sz))
  by_ : Beside S q v
  dB : d.B.length = m
  e0 : d.B.getD 0 0 = b.getD 0 0
  e1 : d.B.getD (m - 1) 0 = b.getD (m - 1) 0

section
variable {C : ConD} {w0 W W' : World} {S S' : Nat → Prop} {q p sz m : Nat} {v v' : Value} {b : List UInt8} {d d' : Dk} {t : Tm} {l : List (List UInt8)} {x : List UInt8}

theorem RunsI.more (h : RunsI C w0 W S q p v sz m b d t l) (hb : Below W.heap.size W W') : RunsI C w0 W' S q p v sz m b d t l :=
  ⟨h.lt.more hb, h.st, h.at0, h.len, h.arm, own_block h.row fun g hg => hb.block g (h.row.lt g hg).2, h.by_, h.dB, h.e0, h.e1⟩
theorem RunsI.besideT (h : RunsI C w0 W S q p v sz m b d t l) (ht : Turn (SQ S q) (SQ S' q) W W') : Beside S' q v := fun k hk hs => by
  rcases ht.new k hs with h1 | h1
  · exact h.by_ k hk h1
  · have := (h.row.lt k hk).2
    omega
theorem RunsI.rowT (h : RunsI C w0 W S q p v sz m b d t l) (ht : Turn (SQ S q) (SQ S' q) W W') : W'.ownsRow w0.heap.size 5 1 v sz (Lib.byteCells (areaT d.B 1 sz)) :=
  own_block h.row fun g hg => ht.kept.block g (h.row.lt g hg).2 (h.by_ g hg)
theorem RunsI.read (h : RunsI C w0 W S q p v sz m b d t l) : badE d 0 m = 0 ∧ readB d 0 m = d.B := by
  have e := h.dB
  have h1 : badE d 0 m = 0 := by
    unfold badE
    rw [e, if_pos ⟨by omega, by omega, by omega, by omega⟩, h.st.on]
    rfl
  refine ⟨h1, ?_⟩
  unfold readB Dk.now
  rw [if_pos h1, h.st.calm]
  show (d.B.drop 0).take m = d.B
  rw [List.drop_zero, List.take_of_length_le (by omega)]
theorem grown_set {w : World} {g j : Nat} (u : Value) : w.grownBy (w.setCell ⟨g, j, none⟩ u) (some g) :=
  ⟨rfl, rfl, rfl, by simp [World.setCell], fun k _ hk => by
    have : k ≠ g := fun e => hk (by rw [e])
    simp [World.setCell, Array.getElem?_modify, Ne.symm this]⟩
/-- The area's bytes behind one record more are those that the document tells. -/
theorem app_area (h : TState d t l) (hb : t.fin + 5 + x.length ≤ t.len) (hs : x.length < 4294967296) : put1 (put1 (areaT d.B t.at_ t.len) (t.fin + 1) (appW t x)) t.fin [1] = appA (areaT d.B t.at_ t.len) t.fin x := by
  have hA := area_len h.inside
  have hm := (lies_more (z := if t.fin + 5 + x.length + 5 ≤ t.len then [0] else []) h.lies (by rw [← h.fin, hA]; exact hb) hs (by rw [← h.fin, hA]; by_cases h5 : t.fin + 5 + x.length + 5 ≤ t.len <;> simp [h5])).2
  rw [← h.fin] at hm
  have hW : (be4 x.length ++ (x ++ if t.fin + 5 + x.length + 5 ≤ t.len then [0] else [])) = appW t x := rfl
  rw [hW] at hm
  rw [hm]
  unfold appA
  rw [hA]
  have hf := h.lies.front
  rw [← h.fin] at hf
  rw [hf, encL_append, encL_one, enc1]
  by_cases h5 : t.fin + 5 + x.length + 5 ≤ t.len
  · simp [h5]
  · simp [h5]
/-- Behind a record more. -/
theorem RunsI.appended (h : RunsI C w0 W S q p v sz m b d t l) (hsm : m = sz + 2) (hb : t.fin + 5 + x.length ≤ sz) (hs : x.length ≤ 1048576) (hlt : LT C w0 W' S' q p (appS d t x).1 (appT t x 0)) (hr : W'.ownsRow w0.heap.size 5 1 v' sz (Lib.byteCells (appA (areaT d.B 1 sz) t.fin x))) (hby : Beside S' q v') :
    RunsI C w0 W' S' q p v' sz m b (appS d t x).1 (appT t x 0) (l ++ [x]) := by
  have ap := append_calm h.st h.arm (b := x) (by rw [h.len]; exact hb) hs
  have ha := app_area h.st (x := x) (by rw [h.len]; exact hb) (by omega)
  have e := ap.2.2.1.trans ha
  rw [h.at0, h.len] at e
  refine ⟨hlt, ap.2.1, h.at0, h.len, app_armed t x h.arm, by rw [e]; exact hr, hby, ap.2.2.2.1.trans h.dB, (ap.2.2.2.2 0 (by rw [h.at0]; omega)).trans h.e0, (ap.2.2.2.2 (m - 1) (by rw [h.at0, h.len]; omega)).trans h.e1⟩
/-- Behind a reset. -/
theorem RunsI.reset_ (h : RunsI C w0 W S q p v sz m b d t l) (hsm : m = sz + 2) (h5 : 5 ≤ sz) (hlt : LT C w0 W' S' q p (resS d t).1 (resT t 0)) (hr : W'.ownsRow w0.heap.size 5 1 v' sz (Lib.byteCells ((areaT d.B 1 sz).set 0 0))) (hby : Beside S' q v') :
    RunsI C w0 W' S' q p v' sz m b (resS d t).1 (resT t 0) [] := by
  have ap := reset_calm h.st h.arm
  have e := ap.2.2.1
  rw [h.at0, h.len] at e
  have hA : (areaT d.B 1 sz).length = sz := by have := area_len h.st.inside; rw [h.at0, h.len] at this; exact this
  have e2 : put1 (areaT d.B 1 sz) 0 [0] = (areaT d.B 1 sz).set 0 0 := by
    cases hx : areaT d.B 1 sz with
    | nil => rw [hx] at hA; simp at hA; omega
    | cons y r => simp [put1]
  refine ⟨hlt, ap.2.1, h.at0, h.len, res_armed t h.arm, by rw [e, e2]; exact hr, hby, ap.2.2.2.1.trans h.dB, (ap.2.2.2.2 0 (by rw [h.at0]; omega)).trans h.e0, (ap.2.2.2.2 (m - 1) (by rw [h.at0, h.len]; omega)).trans h.e1⟩
end

end Go.Proofs.YthcikgbnenfjpaaDoor.pk
