/-
  Texts of the proof, joined: RdG, RdH, RdI, RefOpB, RdJ.
-/
import Derived.Test.YtfblgkcipnkhaaaGreatDoorJd

/-
  The document's own reader of a message: its boxes.
-/
namespace Go.Proofs.YtfblgkcipnkhaaaGreatDoor.pk
open Go Go.RowKit
set_option maxRecDepth 100000

/-- A box of twelve cells. -/
def M12 (w : World) (g : Nat) (v0 v1 v2 v3 v4 v5 v6 v7 v8 v9 v10 v11 : Value) : Prop := w.heap[g]? = some (.cells #[v0, v1, v2, v3, v4, v5, v6, v7, v8, v9, v10, v11] 25 (0, 0))
theorem M12.lt {w : World} {g : Nat} {v0 v1 v2 v3 v4 v5 v6 v7 v8 v9 v10 v11 : Value} (h : M12 w g v0 v1 v2 v3 v4 v5 v6 v7 v8 v9 v10 v11) : g < w.heap.size := obj_lt h
theorem M12.below {w w' : World} {g : Nat} {v0 v1 v2 v3 v4 v5 v6 v7 v8 v9 v10 v11 : Value} (h : M12 w g v0 v1 v2 v3 v4 v5 v6 v7 v8 v9 v10 v11) (hb : Below w.heap.size w w') : M12 w' g v0 v1 v2 v3 v4 v5 v6 v7 v8 v9 v10 v11 := (hb.block g h.lt).trans h
theorem M12.other {w : World} {g : Nat} {v0 v1 v2 v3 v4 v5 v6 v7 v8 v9 v10 v11 : Value} (h : M12 w g v0 v1 v2 v3 v4 v5 v6 v7 v8 v9 v10 v11) (p : Addr) (hp : g ≠ p.block) (u : Value) : M12 (w.setCell p u) g v0 v1 v2 v3 v4 v5 v6 v7 v8 v9 v10 v11 := (Below.heap_setCell w p u g hp).trans h
theorem M12.set0 {w : World} {g : Nat} {v0 v1 v2 v3 v4 v5 v6 v7 v8 v9 v10 v11 : Value} (h : M12 w g v0 v1 v2 v3 v4 v5 v6 v7 v8 v9 v10 v11) (u : Value) : M12 (w.setCell ⟨g, 0, none⟩ u) g u v1 v2 v3 v4 v5 v6 v7 v8 v9 v10 v11 := by
  unfold M12 at h ⊢; simp [World.setCell, Array.getElem?_modify, h]
theorem M12.set1 {w : World} {g : Nat} {v0 v1 v2 v3 v4 v5 v6 v7 v8 v9 v10 v11 : Value} (h : M12 w g v0 v1 v2 v3 v4 v5 v6 v7 v8 v9 v10 v11) (u : Value) : M12 (w.setCell ⟨g, 1, none⟩ u) g v0 u v2 v3 v4 v5 v6 v7 v8 v9 v10 v11 := by
  unfold M12 at h ⊢; simp [World.setCell, Array.getElem?_modify, h]
theorem M12.set2 {w : World} {g : Nat} {v0 v1 v2 v3 v4 v5 v6 v7 v8 v9 v10 v11 : Value} (h : M12 w g v0 v1 v2 v3 v4 v5 v6 v7 v8 v9 v10 v11) (u : Value) : M12 (w.setCell ⟨g, 2, none⟩ u) g v0 v1 u v3 v4 v5 v6 v7 v8 v9 v10 v11 := by
  unfold M12 at h ⊢; simp [World.setCell, Array.getElem?_modify, h]
theorem M12.set3 {w : World} {g : Nat} {v0 v1 v2 v3 v4 v5 v6 v7 v8 v9 v10 v11 : Value} (h : M12 w g v0 v1 v2 v3 v4 v5 v6 v7 v8 v9 v10 v11) (u : Value) : M12 (w.setCell ⟨g, 3, none⟩ u) g v0 v1 v2 u v4 v5 v6 v7 v8 v9 v10 v11 := by
  unfold M12 at h ⊢; simp [World.setCell, Array.getElem?_modify, h]
theorem M12.set4 {w : World} {g : Nat} {v0 v1 v2 v3 v4 v5 v6 v7 v8 v9 v10 v11 : Value} (h : M12 w g v0 v1 v2 v3 v4 v5 v6 v7 v8 v9 v10 v11) (u : Value) : M12 (w.setCell ⟨g, 4, none⟩ u) g v0 v1 v2 v3 u v5 v6 v7 v8 v9 v10 v11 := by
  unfold M12 at h ⊢; simp [World.setCell, Array.getElem?_modify, h]
theorem M12.set5 {w : World} {g : Nat} {v0 v1 v2 v3 v4 v5 v6 v7 v8 v9 v10 v11 : Value} (h : M12 w g v0 v1 v2 v3 v4 v5 v6 v7 v8 v9 v10 v11) (u : Value) : M12 (w.setCell ⟨g, 5, none⟩ u) g v0 v1 v2 v3 v4 u v6 v7 v8 v9 v10 v11 := by
  unfold M12 at h ⊢; simp [World.setCell, Array.getElem?_modify, h]
theorem M12.set6 {w : World} {g : Nat} {v0 v1 v2 v3 v4 v5 v6 v7 v8 v9 v10 v11 : Value} (h : M12 w g v0 v1 v2 v3 v4 v5 v6 v7 v8 v9 v10 v11) (u : Value) : M12 (w.setCell ⟨g, 6, none⟩ u) g v0 v1 v2 v3 v4 v5 u v7 v8 v9 v10 v11 := by
  unfold M12 at h ⊢; simp [World.setCell, Array.getElem?_modify, h]
theorem M12.set7 {w : World} {g : Nat} {v0 v1 v2 v3 v4 v5 v6 v7 v8 v9 v10 v11 : Value} (h : M12 w g v0 v1 v2 v3 v4 v5 v6 v7 v8 v9 v10 v11) (u : Value) : M12 (w.setCell ⟨g, 7, none⟩ u) g v0 v1 v2 v3 v4 v5 v6 u v8 v9 v10 v11 := by
  unfold M12 at h ⊢; simp [World.setCell, Array.getElem?_modify, h]
theorem M12.set8 {w : World} {g : Nat} {v0 v1 v2 v3 v4 v5 v6 v7 v8 v9 v10 v11 : Value} (h : M12 w g v0 v1 v2 v3 v4 v5 v6 v7 v8 v9 v10 v11) (u : Value) : M12 (w.setCell ⟨g, 8, none⟩ u) g v0 v1 v2 v3 v4 v5 v6 v7 u v9 v10 v11 := by
  unfold M12 at h ⊢; simp [World.setCell, Array.getElem?_modify, h]
theorem M12.set9 {w : World} {g : Nat} {v0 v1 v2 v3 v4 v5 v6 v7 v8 v9 v10 v11 : Value} (h : M12 w g v0 v1 v2 v3 v4 v5 v6 v7 v8 v9 v10 v11) (u : Value) : M12 (w.setCell ⟨g, 9, none⟩ u) g v0 v1 v2 v3 v4 v5 v6 v7 v8 u v10 v11 := by
  unfold M12 at h ⊢; simp [World.setCell, Array.getElem?_modify, h]
theorem M12.set10 {w : World} {g : Nat} {v0 v1 v2 v3 v4 v5 v6 v7 v8 v9 v10 v11 : Value} (h : M12 w g v0 v1 v2 v3 v4 v5 v6 v7 v8 v9 v10 v11) (u : Value) : M12 (w.setCell ⟨g, 10, none⟩ u) g v0 v1 v2 v3 v4 v5 v6 v7 v8 v9 u v11 := by
  unfold M12 at h ⊢; simp [World.setCell, Array.getElem?_modify, h]
theorem M12.set11 {w : World} {g : Nat} {v0 v1 v2 v3 v4 v5 v6 v7 v8 v9 v10 v11 : Value} (h : M12 w g v0 v1 v2 v3 v4 v5 v6 v7 v8 v9 v10 v11) (u : Value) : M12 (w.setCell ⟨g, 11, none⟩ u) g v0 v1 v2 v3 v4 v5 v6 v7 v8 v9 v10 u := by
  unfold M12 at h ⊢; simp [World.setCell, Array.getElem?_modify, h]

/-- Where Decode stands: its result, the message, its reader. -/
structure Mk (w : World) (g : Nat) (W : World) (x0 x1 v0 v1 v2 v3 v4 v5 v6 v7 v8 v9 v10 v11 : Value) : Prop where
  z : M12 W g (.int .i64 0) (.int .i64 0) (.int .i64 0) (.int .i64 0) (.int .i64 0) (.int .i64 0) (.int .i64 0) (.int .i64 0) (.bool false) (.int .i64 0) (.slice none 0 0) (.slice none 0 0)
  m : M12 W (g + 1) v0 v1 v2 v3 v4 v5 v6 v7 v8 v9 v10 v11
  r : RB W (g + 2) x0 x1
  bel : Below g w W
section
variable {w W W' : World} {g : Nat} {x0 x1 v0 v1 v2 v3 v4 v5 v6 v7 v8 v9 v10 v11 : Value}
theorem Mk.call (h : Mk w g W x0 x1 v0 v1 v2 v3 v4 v5 v6 v7 v8 v9 v10 v11) (hb : Below W.heap.size W W') : Mk w g W' x0 x1 v0 v1 v2 v3 v4 v5 v6 v7 v8 v9 v10 v11 :=
  ⟨h.z.below hb, h.m.below hb, h.r.below hb, h.bel.trans (hb.mono (Nat.le_of_lt h.z.lt))⟩
theorem Mk.setR (h : Mk w g W x0 x1 v0 v1 v2 v3 v4 v5 v6 v7 v8 v9 v10 v11) (u v : Value) : Mk w g ((W.setCell ⟨g + 2, 0, none⟩ u).setCell ⟨g + 2, 1, none⟩ v) u v v0 v1 v2 v3 v4 v5 v6 v7 v8 v9 v10 v11 :=
  ⟨(h.z.other _ (by simp only; omega) _).other _ (by simp only; omega) _, (h.m.other _ (by simp only; omega) _).other _ (by simp only; omega) _, h.r.set u v,
    (h.bel.setCell (p := ⟨g + 2, 0, none⟩) (by simp only; omega) _).setCell (p := ⟨g + 2, 1, none⟩) (by simp only; omega) _⟩
theorem Mk.set0 (h : Mk w g W x0 x1 v0 v1 v2 v3 v4 v5 v6 v7 v8 v9 v10 v11) (u : Value) : Mk w g (W.setCell ⟨g + 1, 0, none⟩ u) x0 x1 u v1 v2 v3 v4 v5 v6 v7 v8 v9 v10 v11 :=
  ⟨h.z.other _ (by simp only; omega) _, h.m.set0 u, h.r.other1 _ (by simp only; omega) _, h.bel.setCell (p := ⟨g + 1, 0, none⟩) (by simp only; omega) _⟩
theorem Mk.set1 (h : Mk w g W x0 x1 v0 v1 v2 v3 v4 v5 v6 v7 v8 v9 v10 v11) (u : Value) : Mk w g (W.setCell ⟨g + 1, 1, none⟩ u) x0 x1 v0 u v2 v3 v4 v5 v6 v7 v8 v9 v10 v11 :=
  ⟨h.z.other _ (by simp only; omega) _, h.m.set1 u, h.r.other1 _ (by simp only; omega) _, h.bel.setCell (p := ⟨g + 1, 1, none⟩) (by simp only; omega) _⟩
theorem Mk.set2 (h : Mk w g W x0 x1 v0 v1 v2 v3 v4 v5 v6 v7 v8 v9 v10 v11) (u : Value) : Mk w g (W.setCell ⟨g + 1, 2, none⟩ u) x0 x1 v0 v1 u v3 v4 v5 v6 v7 v8 v9 v10 v11 :=
  ⟨h.z.other _ (by simp only; omega) _, h.m.set2 u, h.r.other1 _ (by simp only; omega) _, h.bel.setCell (p := ⟨g + 1, 2, none⟩) (by simp only; omega) _⟩
theorem Mk.set3 (h : Mk w g W x0 x1 v0 v1 v2 v3 v4 v5 v6 v7 v8 v9 v10 v11) (u : Value) : Mk w g (W.setCell ⟨g + 1, 3, none⟩ u) x0 x1 v0 v1 v2 u v4 v5 v6 v7 v8 v9 v10 v11 :=
  ⟨h.z.other _ (by simp only; omega) _, h.m.set3 u, h.r.other1 _ (by simp only; omega) _, h.bel.setCell (p := ⟨g + 1, 3, none⟩) (by simp only; omega) _⟩
theorem Mk.set4 (h : Mk w g W x0 x1 v0 v1 v2 v3 v4 v5 v6 v7 v8 v9 v10 v11) (u : Value) : Mk w g (W.setCell ⟨g + 1, 4, none⟩ u) x0 x1 v0 v1 v2 v3 u v5 v6 v7 v8 v9 v10 v11 :=
  ⟨h.z.other _ (by simp only; omega) _, h.m.set4 u, h.r.other1 _ (by simp only; omega) _, h.bel.setCell (p := ⟨g + 1, 4, none⟩) (by simp only; omega) _⟩
theorem Mk.set5 (h : Mk w g W x0 x1 v0 v1 v2 v3 v4 v5 v6 v7 v8 v9 v10 v11) (u : Value) : Mk w g (W.setCell ⟨g + 1, 5, none⟩ u) x0 x1 v0 v1 v2 v3 v4 u v6 v7 v8 v9 v10 v11 :=
  ⟨h.z.other _ (by simp only; omega) _, h.m.set5 u, h.r.other1 _ (by simp only; omega) _, h.bel.setCell (p := ⟨g + 1, 5, none⟩) (by simp only; omega) _⟩
theorem Mk.set6 (h : Mk w g W x0 x1 v0 v1 v2 v3 v4 v5 v6 v7 v8 v9 v10 v11) (u : Value) : Mk w g (W.setCell ⟨g + 1, 6, none⟩ u) x0 x1 v0 v1 v2 v3 v4 v5 u v7 v8 v9 v10 v11 :=
  ⟨h.z.other _ (by simp only; omega) _, h.m.set6 u, h.r.other1 _ (by simp only; omega) _, h.bel.setCell (p := ⟨g + 1, 6, none⟩) (by simp only; omega) _⟩
theorem Mk.set7 (h : Mk w g W x0 x1 v0 v1 v2 v3 v4 v5 v6 v7 v8 v9 v10 v11) (u : Value) : Mk w g (W.setCell ⟨g + 1, 7, none⟩ u) x0 x1 v0 v1 v2 v3 v4 v5 v6 u v8 v9 v10 v11 :=
  ⟨h.z.other _ (by simp only; omega) _, h.m.set7 u, h.r.other1 _ (by simp only; omega) _, h.bel.setCell (p := ⟨g + 1, 7, none⟩) (by simp only; omega) _⟩
theorem Mk.set8 (h : Mk w g W x0 x1 v0 v1 v2 v3 v4 v5 v6 v7 v8 v9 v10 v11) (u : Value) : Mk w g (W.setCell ⟨g + 1, 8, none⟩ u) x0 x1 v0 v1 v2 v3 v4 v5 v6 v7 u v9 v10 v11 :=
  ⟨h.z.other _ (by simp only; omega) _, h.m.set8 u, h.r.other1 _ (by simp only; omega) _, h.bel.setCell (p := ⟨g + 1, 8, none⟩) (by simp only; omega) _⟩
theorem Mk.set9 (h : Mk w g W x0 x1 v0 v1 v2 v3 v4 v5 v6 v7 v8 v9 v10 v11) (u : Value) : Mk w g (W.setCell ⟨g + 1, 9, none⟩ u) x0 x1 v0 v1 v2 v3 v4 v5 v6 v7 v8 u v10 v11 :=
  ⟨h.z.other _ (by simp only; omega) _, h.m.set9 u, h.r.other1 _ (by simp only; omega) _, h.bel.setCell (p := ⟨g + 1, 9, none⟩) (by simp only; omega) _⟩
theorem Mk.set10 (h : Mk w g W x0 x1 v0 v1 v2 v3 v4 v5 v6 v7 v8 v9 v10 v11) (u : Value) : Mk w g (W.setCell ⟨g + 1, 10, none⟩ u) x0 x1 v0 v1 v2 v3 v4 v5 v6 v7 v8 v9 u v11 :=
  ⟨h.z.other _ (by simp only; omega) _, h.m.set10 u, h.r.other1 _ (by simp only; omega) _, h.bel.setCell (p := ⟨g + 1, 10, none⟩) (by simp only; omega) _⟩
theorem Mk.set11 (h : Mk w g W x0 x1 v0 v1 v2 v3 v4 v5 v6 v7 v8 v9 v10 v11) (u : Value) : Mk w g (W.setCell ⟨g + 1, 11, none⟩ u) x0 x1 v0 v1 v2 v3 v4 v5 v6 v7 v8 v9 v10 u :=
  ⟨h.z.other _ (by simp only; omega) _, h.m.set11 u, h.r.other1 _ (by simp only; omega) _, h.bel.setCell (p := ⟨g + 1, 11, none⟩) (by simp only; omega) _⟩
end

theorem mk_start (w : World) (u v : Value) : ∃ W, W = ((w.alloc (Obj.cells #[Value.int IntKind.i64 0, Value.int IntKind.i64 0, Value.int IntKind.i64 0, Value.int IntKind.i64 0, Value.int IntKind.i64 0, Value.int IntKind.i64 0, Value.int IntKind.i64 0, Value.int IntKind.i64 0, Value.bool false, Value.int IntKind.i64 0, Value.slice none 0 0, Value.slice none 0 0] 25)).alloc (Obj.cells #[Value.int IntKind.i64 0, Value.int IntKind.i64 0, Value.int IntKind.i64 0, Value.int IntKind.i64 0, Value.int IntKind.i64 0, Value.int IntKind.i64 0, Value.int IntKind.i64 0, Value.int IntKind.i64 0, Value.bool false, Value.int IntKind.i64 0, Value.slice none 0 0, Value.slice none 0 0] 25)).alloc (Obj.cells #[u, v] 63) ∧
    Mk w w.heap.size W u v (.int .i64 0) (.int .i64 0) (.int .i64 0) (.int .i64 0) (.int .i64 0) (.int .i64 0) (.int .i64 0) (.int .i64 0) (.bool false) (.int .i64 0) (.slice none 0 0) (.slice none 0 0) ∧ w.heap.size + 2 < W.heap.size := by
  refine ⟨_, rfl, ?_⟩
  obtain ⟨W1, h1⟩ : ∃ W1, W1 = w.alloc (Obj.cells #[Value.int IntKind.i64 0, Value.int IntKind.i64 0, Value.int IntKind.i64 0, Value.int IntKind.i64 0, Value.int IntKind.i64 0, Value.int IntKind.i64 0, Value.int IntKind.i64 0, Value.int IntKind.i64 0, Value.bool false, Value.int IntKind.i64 0, Value.slice none 0 0, Value.slice none 0 0] 25) := ⟨_, rfl⟩
  obtain ⟨W2, h2⟩ : ∃ W2, W2 = W1.alloc (Obj.cells #[Value.int IntKind.i64 0, Value.int IntKind.i64 0, Value.int IntKind.i64 0, Value.int IntKind.i64 0, Value.int IntKind.i64 0, Value.int IntKind.i64 0, Value.int IntKind.i64 0, Value.int IntKind.i64 0, Value.bool false, Value.int IntKind.i64 0, Value.slice none 0 0, Value.slice none 0 0] 25) := ⟨_, rfl⟩
  rw [← h1, ← h2]
  have b1 : Below w.heap.size w W1 := by rw [h1]; exact below_alloc _ _
  have b2 : Below W1.heap.size W1 W2 := by rw [h2]; exact below_alloc _ _
  have b3 := below_alloc W2 (Obj.cells #[u, v] 63)
  have s1 : W1.heap.size = w.heap.size + 1 := by rw [h1, World.size_alloc]
  have s2 : W2.heap.size = w.heap.size + 2 := by rw [h2, World.size_alloc, s1]
  have z1 : M12 W1 w.heap.size (.int .i64 0) (.int .i64 0) (.int .i64 0) (.int .i64 0) (.int .i64 0) (.int .i64 0) (.int .i64 0) (.int .i64 0) (.bool false) (.int .i64 0) (.slice none 0 0) (.slice none 0 0) := by rw [h1]; exact heap_alloc_new w _
  have m1 : M12 W2 (w.heap.size + 1) (.int .i64 0) (.int .i64 0) (.int .i64 0) (.int .i64 0) (.int .i64 0) (.int .i64 0) (.int .i64 0) (.int .i64 0) (.bool false) (.int .i64 0) (.slice none 0 0) (.slice none 0 0) := by rw [h2, ← s1]; exact heap_alloc_new W1 _
  have r1 : RB (W2.alloc (Obj.cells #[u, v] 63)) (w.heap.size + 2) u v := by rw [← s2]; exact heap_alloc_new W2 _
  exact ⟨⟨(z1.below b2).below b3, m1.below b3, r1, (b1.trans (b2.mono (by omega))).trans (b3.mono (by omega))⟩, r1.lt⟩

end Go.Proofs.YtfblgkcipnkhaaaGreatDoor.pk

/-
  The document's own reader of a message: its first half.
-/
namespace Go.Proofs.YtfblgkcipnkhaaaGreatDoor.pk
open Go Go.RowKit
set_option maxRecDepth 100000

/-- Where the loop over the entries stands. -/
structure LD (cnt j : Nat) (s : List UInt8) (k : Nat) (okb : Bool) (es : List En) (sF : List UInt8) (kF : Nat) (okF : Bool) (esF : List En) : Prop where
  le : j ≤ cnt
  st : (takeEs (cnt - j) (s, k)).1.1 = (sF, kF)
  bo : (okb && (takeEs (cnt - j) (s, k)).1.2) = okF
  li : es ++ (takeEs (cnt - j) (s, k)).2 = esF
  fit : ∀ e ∈ es, e.ok
theorem rd_ok {s s' : List UInt8} {k k' : Nat} {e : En} (h : takeE (s, k) = ((s', k'), e)) : e.ok := by
  rcases h1 : rUint 1099511627776 (s, k) with ⟨⟨s1, k1⟩, v1⟩
  rcases h2 : rUint 1099511627776 (s1, k1) with ⟨⟨s2, k2⟩, v2⟩
  rcases h3 : rUint 2 (s2, k2) with ⟨⟨s3, k3⟩, v3⟩
  rcases h4 : rBytes 98 4096 (s3, k3) with ⟨⟨s4', k4'⟩, x⟩
  have l1 : v1 ≤ 1099511627776 := by have := rUint_le 1099511627776 (s, k); rw [h1] at this; exact this
  have l2 : v2 ≤ 1099511627776 := by have := rUint_le 1099511627776 (s1, k1); rw [h2] at this; exact this
  have l3 : v3 ≤ 2 := by have := rUint_le 2 (s2, k2); rw [h3] at this; exact this
  unfold takeE at h
  simp only [h1, h2, h3, h4, Prod.mk.injEq] at h
  obtain ⟨-, rfl⟩ := h
  unfold En.ok
  refine ⟨?_, ?_, ?_⟩ <;> (try unfold inI) <;> simp only <;> omega
theorem decE_ok {b : List UInt8} {e : En} {f : Nat} (h : decE b = (e, f)) : e.ok := by
  rcases ht : takeE (b, 0) with ⟨⟨s, k⟩, e0⟩
  unfold decE at h
  simp only [ht] at h
  split at h
  · injection h with a b
    subst a
    exact ze_ok
  · injection h with a b
    subst a
    exact rd_ok ht
section
variable {cnt j : Nat} {s : List UInt8} {k : Nat} {okb : Bool} {es : List En} {sF : List UInt8} {kF : Nat} {okF : Bool} {esF : List En}
theorem ld_start (h : takeEs cnt (s, k) = (((sF, kF), okF), esF)) : LD cnt 0 s k true [] sF kF okF esF := by
  refine ⟨Nat.zero_le _, ?_, ?_, ?_, fun e he => by cases he⟩ <;> rw [Nat.sub_zero, h] <;> rfl
theorem ld_end (h : LD cnt j s k okb es sF kF okF esF) (hend : j = cnt ∨ k ≠ 0) : s = sF ∧ k = kF ∧ okb = okF ∧ es = esF := by
  have ht : takeEs (cnt - j) (s, k) = (((s, k), true), []) := by
    rcases hend with rfl | hk
    · rw [Nat.sub_self]; rfl
    · cases hc : cnt - j with
      | zero => rfl
      | succ q => unfold takeEs; rw [if_pos hk]
  obtain ⟨_, h1, h2, h3, _⟩ := h
  rw [ht] at h1 h2 h3
  simp only [Prod.mk.injEq, Bool.and_true, List.append_nil] at h1 h2 h3
  exact ⟨h1.1, h1.2, h2, h3⟩
theorem ld_next (h : LD cnt j s 0 okb es sF kF okF esF) (hj : j < cnt) {s1 x : List UInt8} {k1 f : Nat} {e : En} (hr : rBytes 98 4200 (s, 0) = ((s1, k1), x)) (hd : decE x = (e, f)) : LD cnt (j + 1) s1 k1 (okb && decide (f = 0)) (es ++ [e]) sF kF okF esF := by
  have hc : cnt - j = (cnt - (j + 1)) + 1 := by omega
  have ht : takeEs (cnt - j) (s, 0) = (((takeEs (cnt - (j + 1)) (s1, k1)).1.1, decide (f = 0) && (takeEs (cnt - (j + 1)) (s1, k1)).1.2), e :: (takeEs (cnt - (j + 1)) (s1, k1)).2) := by
    rw [hc]
    conv => lhs; unfold takeEs
    rw [if_neg (fun h => h rfl)]
    simp only [hr, hd]
  obtain ⟨_, h1, h2, h3, h4⟩ := h
  rw [ht] at h1 h2 h3
  refine ⟨hj, h1, by rw [← h2, Bool.and_assoc], by rw [← h3, List.append_assoc]; rfl, fun y hy => ?_⟩
  rcases List.mem_append.mp hy with hy | hy
  · exact h4 y hy
  · rw [List.mem_singleton.mp hy]; exact decE_ok hd
end
theorem OwnE.setp {w : World} {C B : Nat} {t : TypeId} {v : Value} {l : List En} (h : OwnE w C (fun k => k < B) t v l) (p : Addr) (h1 : B ≤ p.block) (h2 : p.block < C) (u : Value) : OwnE (w.setCell p u) C (fun k => k < B) t v l :=
  h.kept (fun k _ ho => Below.heap_setCell _ _ _ _ (by rcases ho with h3 | h3; · have h4 : k < B := h3; omega
                                                       · have h4 := (h.lt k h3).1; omega)) (by simp)
theorem M12.beneath {w w' : World} {g Q : Nat} {v0 v1 v2 v3 v4 v5 v6 v7 v8 v9 v10 v11 : Value} (h : M12 w g v0 v1 v2 v3 v4 v5 v6 v7 v8 v9 v10 v11) (hb : Below Q w w') (hQ : g < Q) : M12 w' g v0 v1 v2 v3 v4 v5 v6 v7 v8 v9 v10 v11 := (hb.block g hQ).trans h
theorem Mk.beneath {w W W' : World} {g : Nat} {x0 x1 v0 v1 v2 v3 v4 v5 v6 v7 v8 v9 v10 v11 : Value} (h : Mk w g W x0 x1 v0 v1 v2 v3 v4 v5 v6 v7 v8 v9 v10 v11) (hb : Below (g + 3) W W') : Mk w g W' x0 x1 v0 v1 v2 v3 v4 v5 v6 v7 v8 v9 v10 v11 :=
  ⟨h.z.beneath hb (by omega), h.m.beneath hb (by omega), (hb.block (g + 2) (by omega)).trans h.r, h.bel.trans (hb.mono (by omega))⟩
theorem OwnE.put {w F : World} {g B : Nat} {t : TypeId} {v : Value} {l : List En} (h : OwnE w (g + 3) (fun k => k < B) t v l) (hB : B ≤ g) (ho : ∀ k, k ≠ g → F.heap[k]? = w.heap[k]?) (hs : F.heap.size = w.heap.size) : OwnE F (g + 3) (fun k => k < B) t v l :=
  h.kept (fun k _ hk => ho k (by rcases hk with h3 | h3; · have h4 : k < B := h3; omega
                                 · have h4 := (h.lt k h3).1; omega)) (Nat.le_of_eq hs.symm)
/-- A message's bytes and entries, in blocks of T. -/
structure InT (m : Ms) (Ad : Option Addr) (nd cd : Nat) (Ae : Option Addr) (ne ce : Nat) (T : Nat → Prop) (w : World) : Prop where
  data : SlT w T (.slice Ad nd cd) m.data
  ents : EntsT w T (.slice Ae ne ce) m.ents
  fit : ∀ e ∈ m.ents, e.ok
  i0 : inI m.kind ∧ inI m.frm ∧ inI m.to ∧ inI m.term ∧ inI m.index ∧ inI m.logTerm ∧ inI m.commit ∧ inI m.round ∧ inI m.off
theorem InT.inM {m : Ms} {Ad : Option Addr} {nd cd : Nat} {Ae : Option Addr} {ne ce : Nat} {T : Nat → Prop} {w : World} (h : InT m Ad nd cd Ae ne ce T w) (hT : ∀ k, T k → k < w.heap.size) : InM m Ad nd cd Ae ne ce w :=
  ⟨h.data.mono hT, ⟨h.ents.move (fun _ _ _ => rfl) hT, h.fit⟩, h.i0⟩
theorem InT.move {m : Ms} {Ad : Option Addr} {nd cd : Nat} {Ae : Option Addr} {ne ce : Nat} {T T' : Nat → Prop} {w w' : World} (h : InT m Ad nd cd Ae ne ce T w) (hk : ∀ k, T k → k < w.heap.size → w'.heap[k]? = w.heap[k]?) (ht : ∀ k, T k → T' k) : InT m Ad nd cd Ae ne ce T' w' :=
  ⟨(h.data.kept hk).mono ht, h.ents.move hk ht, h.fit, h.i0⟩
theorem info_ref_ : (Tryz.prog.info? 71).map (fun i => (i.zero, i.size, i.bytes)) = some (some (.agg #[.int .i64 0, .int .i64 0, .int .i64 0, .slice none 0 0]), 4, 48) := by kernel_rfl

set_option maxHeartbeats 16000000 in
theorem Dec_walk (A : Option Addr) (n c : Nat) (b : List UInt8) (w : World) (B : Nat) (hB : B ≤ w.heap.size) (h : Sl w B (.slice A n c) b)
    (s1 : List UInt8) (k1 : Nat) (v1 : Nat) (n1 : Nat) (h1 : rUint 1099511627776 (b, 0) = ((s1, k1), v1)) (hn1 : n1 = s1.length)
    (s2 : List UInt8) (k2 : Nat) (v2 : Nat) (n2 : Nat) (h2 : rUint 1099511627776 (s1, k1) = ((s2, k2), v2)) (hn2 : n2 = s2.length)
    (s3 : List UInt8) (k3 : Nat) (v3 : Nat) (n3 : Nat) (h3 : rUint 1099511627776 (s2, k2) = ((s3, k3), v3)) (hn3 : n3 = s3.length)
    (s4 : List UInt8) (k4 : Nat) (v4 : Nat) (n4 : Nat) (h4 : rUint 1099511627776 (s3, k3) = ((s4, k4), v4)) (hn4 : n4 = s4.length)
    (s5 : List UInt8) (k5 : Nat) (v5 : Nat) (n5 : Nat) (h5 : rUint 1099511627776 (s4, k4) = ((s5, k5), v5)) (hn5 : n5 = s5.length)
    (s6 : List UInt8) (k6 : Nat) (v6 : Nat) (n6 : Nat) (h6 : rUint 1099511627776 (s5, k5) = ((s6, k6), v6)) (hn6 : n6 = s6.length)
    (s7 : List UInt8) (k7 : Nat) (v7 : Nat) (n7 : Nat) (h7 : rUint 1099511627776 (s6, k6) = ((s7, k7), v7)) (hn7 : n7 = s7.length)
    (s8 : List UInt8) (k8 : Nat) (v8 : Nat) (n8 : Nat) (h8 : rUint 1099511627776 (s7, k7) = ((s8, k8), v8)) (hn8 : n8 = s8.length)
    (s9 : List UInt8) (k9 : Nat) (v9 : Bool) (n9 : Nat) (h9 : rBool (s8, k8) = ((s9, k9), v9)) (hn9 : n9 = s9.length)
    (s10 : List UInt8) (k10 : Nat) (v10 : Nat) (n10 : Nat) (h10 : rUint 1099511627776 (s9, k9) = ((s10, k10), v10)) (hn10 : n10 = s10.length)
    (s11 : List UInt8) (k11 : Nat) (v11 : List UInt8) (n11 : Nat) (h11 : rBytes 98 4096 (s10, k10) = ((s11, k11), v11)) (hn11 : n11 = s11.length)
    (m11 : Nat) (hm : m11 = v11.length) (s12 : List UInt8) (k12 cnt n12 : Nat) (h12 : rCount 64 (s11, k11) = ((s12, k12), cnt)) (hn12 : n12 = s12.length)
    (sF : List UInt8) (kF : Nat) (okF : Bool) (esF : List En) (ht : takeEs cnt (s12, k12) = (((sF, kF), okF), esF)) (hcnt : cnt ≤ 64) (hi0 : inI (v1 : Int) ∧ inI (v2 : Int) ∧ inI (v3 : Int) ∧ inI (v4 : Int) ∧ inI (v5 : Int) ∧ inI (v6 : Int) ∧ inI (v7 : Int) ∧ inI (v8 : Int) ∧ inI (v10 : Int))
    (m : Ms) (kk : Nat) (hfin : (m, kk) = if (decide (doneR (sF, kF) = 0) && okF && mayM ⟨(v1 : Int), (v2 : Int), (v3 : Int), (v4 : Int), (v5 : Int), (v6 : Int), (v7 : Int), (v8 : Int), v9, (v10 : Int), v11, esF⟩) = true then (⟨(v1 : Int), (v2 : Int), (v3 : Int), (v4 : Int), (v5 : Int), (v6 : Int), (v7 : Int), (v8 : Int), v9, (v10 : Int), v11, esF⟩, 0) else (zm, 3)) (nd ne : Nat) (hnd : nd = m.data.length) (hne : ne = m.ents.length) :
    Calls Tryz.prog 12 #[.slice A n c] w fun y w' => ∃ Ad cd Ae ce, y = .returned (.tuple #[.agg #[.int .i64 m.kind, .int .i64 m.frm, .int .i64 m.to, .int .i64 m.term, .int .i64 m.index, .int .i64 m.logTerm, .int .i64 m.commit, .int .i64 m.round, .bool m.ok, .int .i64 m.off, .slice Ad nd cd, .slice Ae ne ce], .int .i64 (kk : Int)]) ∧ InT m Ad nd cd Ae ne ce (fun q => (q < B ∨ w.heap.size < q) ∧ q < w'.heap.size) w' ∧ Below w.heap.size w w' := by
  obtain ⟨W0, hW0, T0, hsz⟩ := mk_start w (.slice A n c) (.int .i64 0)
  have hS0 : Sl W0 B (.slice A n c) b := h.below (T0.bel.mono hB)
  obtain ⟨g, hge⟩ : ∃ g, g = w.heap.size := ⟨_, rfl⟩
  rw [← hge] at T0 hsz
  have hg : B ≤ g := by rw [hge]; exact hB
  have HG := Lib.hid hge
  have HGB := Lib.hid hg
  have HT0 := Lib.hid (And.intro T0 hS0)
  have HB := Lib.hid hB
  have C1 := Lib.hid fun W hB' hS => number_s A n c 0 b W B hB' hS s1 k1 v1 n1 h1 hn1
  have C2 := Lib.hid fun A c W hB' hS => number_s A n1 c k1 s1 W B hB' hS s2 k2 v2 n2 h2 hn2
  have C3 := Lib.hid fun A c W hB' hS => number_s A n2 c k2 s2 W B hB' hS s3 k3 v3 n3 h3 hn3
  have C4 := Lib.hid fun A c W hB' hS => number_s A n3 c k3 s3 W B hB' hS s4 k4 v4 n4 h4 hn4
  have C5 := Lib.hid fun A c W hB' hS => number_s A n4 c k4 s4 W B hB' hS s5 k5 v5 n5 h5 hn5
  have C6 := Lib.hid fun A c W hB' hS => number_s A n5 c k5 s5 W B hB' hS s6 k6 v6 n6 h6 hn6
  have C7 := Lib.hid fun A c W hB' hS => number_s A n6 c k6 s6 W B hB' hS s7 k7 v7 n7 h7 hn7
  have C8 := Lib.hid fun A c W hB' hS => number_s A n7 c k7 s7 W B hB' hS s8 k8 v8 n8 h8 hn8
  have C9 := Lib.hid fun A c W hB' hS => ReadBool_s A n8 c k8 s8 W B hB' hS s9 k9 n9 v9 h9 hn9
  have C10 := Lib.hid fun A c W hB' hS => number_s A n9 c k9 s9 W B hB' hS s10 k10 v10 n10 h10 hn10
  have C11 := Lib.hid fun A c W hB' hS => ReadBytes_s A n10 c k10 4096 (by omega) s10 W B hB' hS s11 v11 k11 n11 m11 h11 hn11 hm
  have C12 := Lib.hid fun A c W hB' hS => ReadCount_s A n11 c k11 64 (by omega) s11 W B hB' hS s12 k12 cnt n12 h12 hn12
  have HLD := Lib.hid (ld_start ht)
  have HNN := Lib.hid hn12
  have HCN := Lib.hid hcnt
  have HI0 := Lib.hid hi0
  have HFIN := Lib.hid hfin
  have HND := Lib.hid (And.intro hnd hne)
  have HM11 := Lib.hid hm
  have e00 : ((0 : Nat) : Int) = 0 := rfl
  rw [e00] at C1
  clear hnd hne hfin hi0 hcnt ht h T0 hS0 hg hsz hB hm h1 hn1 h2 hn2 h3 hn3 h4 hn4 h5 hn5 h6 hn6 h7 hn7 h8 hn8 h9 hn9 h10 hn10 h11 hn11 h12 hn12
  go_enter Tryz.func12, Tryz.ntmps12
  go_upto_region 3 with fail
  rw [← hW0]
  simp only [World.size_alloc, Nat.add_assoc, Nat.reduceAdd]
  rw [← HG.out]
  clear hW0 hge
  obtain ⟨x0, x1, xf0, xf1⟩ := HT0.out.1.r.facts
  go_upto_region 4 with (go_at_call 32; go_must (refine (C1.out _ (Nat.le_trans HGB.out (Nat.le_of_lt HT0.out.1.z.lt)) HT0.out.2).mono ?_; rintro y w1 ⟨A1, c1, rfl, hS1, hb1⟩; have U := HT0.out.1.call hb1; obtain ⟨x0, x1, xf0, xf1⟩ := U.r.facts; obtain ⟨e0, e1, e2, e3, e4, e5, e6, e7, e8, e9, e10, e11⟩ := cells12 U.m; have f0 := frozen_own U.m 0; have HU1 := Lib.hid (And.intro U (And.intro hS1 trivial)); clear U hb1 hS1))
  clear x0 x1 xf0 xf1 e0 e1 e2 e3 e4 e5 e6 e7 e8 e9 e10 e11 f0
  obtain ⟨W1, hW1⟩ : ∃ W, W = ((w1.setCell ⟨g + 2, 0, none⟩ (.slice A1 n1 c1)).setCell ⟨g + 2, 1, none⟩ (.int .i64 (k1 : Int))).setCell ⟨g + 1, 0, none⟩ (.int .i64 (v1 : Int)) := ⟨_, rfl⟩
  have T := (HU1.out.1.setR (.slice A1 n1 c1) (.int .i64 (k1 : Int))).set0 (.int .i64 (v1 : Int))
  have bb : Below B w1 (((w1.setCell ⟨g + 2, 0, none⟩ (.slice A1 n1 c1)).setCell ⟨g + 2, 1, none⟩ (.int .i64 (k1 : Int))).setCell ⟨g + 1, 0, none⟩ (.int .i64 (v1 : Int))) := (((Below.refl B w1).setCell (p := ⟨g + 2, 0, none⟩) (by have := HGB.out; simp only; omega) _).setCell (p := ⟨g + 2, 1, none⟩) (by have := HGB.out; simp only; omega) _).setCell (p := ⟨g + 1, 0, none⟩) (by have := HGB.out; simp only; omega) _
  have S := HU1.out.2.1.below bb
  rw [← hW1] at T S ⊢
  have HT1 := Lib.hid (And.intro T S)
  clear T S bb hW1
  obtain ⟨x0, x1, xf0, xf1⟩ := HT1.out.1.r.facts
  go_upto_region 5 with (go_at_call 32; go_must (refine (C2.out A1 c1 _ (Nat.le_trans HGB.out (Nat.le_of_lt HT1.out.1.z.lt)) HT1.out.2).mono ?_; rintro y w2 ⟨A2, c2, rfl, hS2, hb2⟩; have U := HT1.out.1.call hb2; obtain ⟨x0, x1, xf0, xf1⟩ := U.r.facts; obtain ⟨e0, e1, e2, e3, e4, e5, e6, e7, e8, e9, e10, e11⟩ := cells12 U.m; have f0 := frozen_own U.m 1; have HU2 := Lib.hid (And.intro U (And.intro hS2 trivial)); clear U hb2 hS2))
  clear x0 x1 xf0 xf1 e0 e1 e2 e3 e4 e5 e6 e7 e8 e9 e10 e11 f0
  obtain ⟨W2, hW2⟩ : ∃ W, W = ((w2.setCell ⟨g + 2, 0, none⟩ (.slice A2 n2 c2)).setCell ⟨g + 2, 1, none⟩ (.int .i64 (k2 : Int))).setCell ⟨g + 1, 1, none⟩ (.int .i64 (v2 : Int)) := ⟨_, rfl⟩
  have T := (HU2.out.1.setR (.slice A2 n2 c2) (.int .i64 (k2 : Int))).set1 (.int .i64 (v2 : Int))
  have bb : Below B w2 (((w2.setCell ⟨g + 2, 0, none⟩ (.slice A2 n2 c2)).setCell ⟨g + 2, 1, none⟩ (.int .i64 (k2 : Int))).setCell ⟨g + 1, 1, none⟩ (.int .i64 (v2 : Int))) := (((Below.refl B w2).setCell (p := ⟨g + 2, 0, none⟩) (by have := HGB.out; simp only; omega) _).setCell (p := ⟨g + 2, 1, none⟩) (by have := HGB.out; simp only; omega) _).setCell (p := ⟨g + 1, 1, none⟩) (by have := HGB.out; simp only; omega) _
  have S := HU2.out.2.1.below bb
  rw [← hW2] at T S ⊢
  have HT2 := Lib.hid (And.intro T S)
  clear T S bb hW2
  obtain ⟨x0, x1, xf0, xf1⟩ := HT2.out.1.r.facts
  go_upto_region 6 with (go_at_call 32; go_must (refine (C3.out A2 c2 _ (Nat.le_trans HGB.out (Nat.le_of_lt HT2.out.1.z.lt)) HT2.out.2).mono ?_; rintro y w3 ⟨A3, c3, rfl, hS3, hb3⟩; have U := HT2.out.1.call hb3; obtain ⟨x0, x1, xf0, xf1⟩ := U.r.facts; obtain ⟨e0, e1, e2, e3, e4, e5, e6, e7, e8, e9, e10, e11⟩ := cells12 U.m; have f0 := frozen_own U.m 2; have HU3 := Lib.hid (And.intro U (And.intro hS3 trivial)); clear U hb3 hS3))
  clear x0 x1 xf0 xf1 e0 e1 e2 e3 e4 e5 e6 e7 e8 e9 e10 e11 f0
  obtain ⟨W3, hW3⟩ : ∃ W, W = ((w3.setCell ⟨g + 2, 0, none⟩ (.slice A3 n3 c3)).setCell ⟨g + 2, 1, none⟩ (.int .i64 (k3 : Int))).setCell ⟨g + 1, 2, none⟩ (.int .i64 (v3 : Int)) := ⟨_, rfl⟩
  have T := (HU3.out.1.setR (.slice A3 n3 c3) (.int .i64 (k3 : Int))).set2 (.int .i64 (v3 : Int))
  have bb : Below B w3 (((w3.setCell ⟨g + 2, 0, none⟩ (.slice A3 n3 c3)).setCell ⟨g + 2, 1, none⟩ (.int .i64 (k3 : Int))).setCell ⟨g + 1, 2, none⟩ (.int .i64 (v3 : Int))) := (((Below.refl B w3).setCell (p := ⟨g + 2, 0, none⟩) (by have := HGB.out; simp only; omega) _).setCell (p := ⟨g + 2, 1, none⟩) (by have := HGB.out; simp only; omega) _).setCell (p := ⟨g + 1, 2, none⟩) (by have := HGB.out; simp only; omega) _
  have S := HU3.out.2.1.below bb
  rw [← hW3] at T S ⊢
  have HT3 := Lib.hid (And.intro T S)
  clear T S bb hW3
  obtain ⟨x0, x1, xf0, xf1⟩ := HT3.out.1.r.facts
  go_upto_region 7 with (go_at_call 32; go_must (refine (C4.out A3 c3 _ (Nat.le_trans HGB.out (Nat.le_of_lt HT3.out.1.z.lt)) HT3.out.2).mono ?_; rintro y w4 ⟨A4, c4, rfl, hS4, hb4⟩; have U := HT3.out.1.call hb4; obtain ⟨x0, x1, xf0, xf1⟩ := U.r.facts; obtain ⟨e0, e1, e2, e3, e4, e5, e6, e7, e8, e9, e10, e11⟩ := cells12 U.m; have f0 := frozen_own U.m 3; have HU4 := Lib.hid (And.intro U (And.intro hS4 trivial)); clear U hb4 hS4))
  clear x0 x1 xf0 xf1 e0 e1 e2 e3 e4 e5 e6 e7 e8 e9 e10 e11 f0
  obtain ⟨W4, hW4⟩ : ∃ W, W = ((w4.setCell ⟨g + 2, 0, none⟩ (.slice A4 n4 c4)).setCell ⟨g + 2, 1, none⟩ (.int .i64 (k4 : Int))).setCell ⟨g + 1, 3, none⟩ (.int .i64 (v4 : Int)) := ⟨_, rfl⟩
  have T := (HU4.out.1.setR (.slice A4 n4 c4) (.int .i64 (k4 : Int))).set3 (.int .i64 (v4 : Int))
  have bb : Below B w4 (((w4.setCell ⟨g + 2, 0, none⟩ (.slice A4 n4 c4)).setCell ⟨g + 2, 1, none⟩ (.int .i64 (k4 : Int))).setCell ⟨g + 1, 3, none⟩ (.int .i64 (v4 : Int))) := (((Below.refl B w4).setCell (p := ⟨g + 2, 0, none⟩) (by have := HGB.out; simp only; omega) _).setCell (p := ⟨g + 2, 1, none⟩) (by have := HGB.out; simp only; omega) _).setCell (p := ⟨g + 1, 3, none⟩) (by have := HGB.out; simp only; omega) _
  have S := HU4.out.2.1.below bb
  rw [← hW4] at T S ⊢
  have HT4 := Lib.hid (And.intro T S)
  clear T S bb hW4
  obtain ⟨x0, x1, xf0, xf1⟩ := HT4.out.1.r.facts
  go_upto_region 8 with (go_at_call 32; go_must (refine (C5.out A4 c4 _ (Nat.le_trans HGB.out (Nat.le_of_lt HT4.out.1.z.lt)) HT4.out.2).mono ?_; rintro y w5 ⟨A5, c5, rfl, hS5, hb5⟩; have U := HT4.out.1.call hb5; obtain ⟨x0, x1, xf0, xf1⟩ := U.r.facts; obtain ⟨e0, e1, e2, e3, e4, e5, e6, e7, e8, e9, e10, e11⟩ := cells12 U.m; have f0 := frozen_own U.m 4; have HU5 := Lib.hid (And.intro U (And.intro hS5 trivial)); clear U hb5 hS5))
  clear x0 x1 xf0 xf1 e0 e1 e2 e3 e4 e5 e6 e7 e8 e9 e10 e11 f0
  obtain ⟨W5, hW5⟩ : ∃ W, W = ((w5.setCell ⟨g + 2, 0, none⟩ (.slice A5 n5 c5)).setCell ⟨g + 2, 1, none⟩ (.int .i64 (k5 : Int))).setCell ⟨g + 1, 4, none⟩ (.int .i64 (v5 : Int)) := ⟨_, rfl⟩
  have T := (HU5.out.1.setR (.slice A5 n5 c5) (.int .i64 (k5 : Int))).set4 (.int .i64 (v5 : Int))
  have bb : Below B w5 (((w5.setCell ⟨g + 2, 0, none⟩ (.slice A5 n5 c5)).setCell ⟨g + 2, 1, none⟩ (.int .i64 (k5 : Int))).setCell ⟨g + 1, 4, none⟩ (.int .i64 (v5 : Int))) := (((Below.refl B w5).setCell (p := ⟨g + 2, 0, none⟩) (by have := HGB.out; simp only; omega) _).setCell (p := ⟨g + 2, 1, none⟩) (by have := HGB.out; simp only; omega) _).setCell (p := ⟨g + 1, 4, none⟩) (by have := HGB.out; simp only; omega) _
  have S := HU5.out.2.1.below bb
  rw [← hW5] at T S ⊢
  have HT5 := Lib.hid (And.intro T S)
  clear T S bb hW5
  obtain ⟨x0, x1, xf0, xf1⟩ := HT5.out.1.r.facts
  go_upto_region 9 with (go_at_call 32; go_must (refine (C6.out A5 c5 _ (Nat.le_trans HGB.out (Nat.le_of_lt HT5.out.1.z.lt)) HT5.out.2).mono ?_; rintro y w6 ⟨A6, c6, rfl, hS6, hb6⟩; have U := HT5.out.1.call hb6; obtain ⟨x0, x1, xf0, xf1⟩ := U.r.facts; obtain ⟨e0, e1, e2, e3, e4, e5, e6, e7, e8, e9, e10, e11⟩ := cells12 U.m; have f0 := frozen_own U.m 5; have HU6 := Lib.hid (And.intro U (And.intro hS6 trivial)); clear U hb6 hS6))
  clear x0 x1 xf0 xf1 e0 e1 e2 e3 e4 e5 e6 e7 e8 e9 e10 e11 f0
  obtain ⟨W6, hW6⟩ : ∃ W, W = ((w6.setCell ⟨g + 2, 0, none⟩ (.slice A6 n6 c6)).setCell ⟨g + 2, 1, none⟩ (.int .i64 (k6 : Int))).setCell ⟨g + 1, 5, none⟩ (.int .i64 (v6 : Int)) := ⟨_, rfl⟩
  have T := (HU6.out.1.setR (.slice A6 n6 c6) (.int .i64 (k6 : Int))).set5 (.int .i64 (v6 : Int))
  have bb : Below B w6 (((w6.setCell ⟨g + 2, 0, none⟩ (.slice A6 n6 c6)).setCell ⟨g + 2, 1, none⟩ (.int .i64 (k6 : Int))).setCell ⟨g + 1, 5, none⟩ (.int .i64 (v6 : Int))) := (((Below.refl B w6).setCell (p := ⟨g + 2, 0, none⟩) (by have := HGB.out; simp only; omega) _).setCell (p := ⟨g + 2, 1, none⟩) (by have := HGB.out; simp only; omega) _).setCell (p := ⟨g + 1, 5, none⟩) (by have := HGB.out; simp only; omega) _
  have S := HU6.out.2.1.below bb
  rw [← hW6] at T S ⊢
  have HT6 := Lib.hid (And.intro T S)
  clear T S bb hW6
  obtain ⟨x0, x1, xf0, xf1⟩ := HT6.out.1.r.facts
  go_upto_region 10 with (go_at_call 32; go_must (refine (C7.out A6 c6 _ (Nat.le_trans HGB.out (Nat.le_of_lt HT6.out.1.z.lt)) HT6.out.2).mono ?_; rintro y w7 ⟨A7, c7, rfl, hS7, hb7⟩; have U := HT6.out.1.call hb7; obtain ⟨x0, x1, xf0, xf1⟩ := U.r.facts; obtain ⟨e0, e1, e2, e3, e4, e5, e6, e7, e8, e9, e10, e11⟩ := cells12 U.m; have f0 := frozen_own U.m 6; have HU7 := Lib.hid (And.intro U (And.intro hS7 trivial)); clear U hb7 hS7))
  clear x0 x1 xf0 xf1 e0 e1 e2 e3 e4 e5 e6 e7 e8 e9 e10 e11 f0
  obtain ⟨W7, hW7⟩ : ∃ W, W = ((w7.setCell ⟨g + 2, 0, none⟩ (.slice A7 n7 c7)).setCell ⟨g + 2, 1, none⟩ (.int .i64 (k7 : Int))).setCell ⟨g + 1, 6, none⟩ (.int .i64 (v7 : Int)) := ⟨_, rfl⟩
  have T := (HU7.out.1.setR (.slice A7 n7 c7) (.int .i64 (k7 : Int))).set6 (.int .i64 (v7 : Int))
  have bb : Below B w7 (((w7.setCell ⟨g + 2, 0, none⟩ (.slice A7 n7 c7)).setCell ⟨g + 2, 1, none⟩ (.int .i64 (k7 : Int))).setCell ⟨g + 1, 6, none⟩ (.int .i64 (v7 : Int))) := (((Below.refl B w7).setCell (p := ⟨g + 2, 0, none⟩) (by have := HGB.out; simp only; omega) _).setCell (p := ⟨g + 2, 1, none⟩) (by have := HGB.out; simp only; omega) _).setCell (p := ⟨g + 1, 6, none⟩) (by have := HGB.out; simp only; omega) _
  have S := HU7.out.2.1.below bb
  rw [← hW7] at T S ⊢
  have HT7 := Lib.hid (And.intro T S)
  clear T S bb hW7
  obtain ⟨x0, x1, xf0, xf1⟩ := HT7.out.1.r.facts
  go_upto_region 11 with (go_at_call 32; go_must (refine (C8.out A7 c7 _ (Nat.le_trans HGB.out (Nat.le_of_lt HT7.out.1.z.lt)) HT7.out.2).mono ?_; rintro y w8 ⟨A8, c8, rfl, hS8, hb8⟩; have U := HT7.out.1.call hb8; obtain ⟨x0, x1, xf0, xf1⟩ := U.r.facts; obtain ⟨e0, e1, e2, e3, e4, e5, e6, e7, e8, e9, e10, e11⟩ := cells12 U.m; have f0 := frozen_own U.m 7; have HU8 := Lib.hid (And.intro U (And.intro hS8 trivial)); clear U hb8 hS8))
  clear x0 x1 xf0 xf1 e0 e1 e2 e3 e4 e5 e6 e7 e8 e9 e10 e11 f0
  obtain ⟨W8, hW8⟩ : ∃ W, W = ((w8.setCell ⟨g + 2, 0, none⟩ (.slice A8 n8 c8)).setCell ⟨g + 2, 1, none⟩ (.int .i64 (k8 : Int))).setCell ⟨g + 1, 7, none⟩ (.int .i64 (v8 : Int)) := ⟨_, rfl⟩
  have T := (HU8.out.1.setR (.slice A8 n8 c8) (.int .i64 (k8 : Int))).set7 (.int .i64 (v8 : Int))
  have bb : Below B w8 (((w8.setCell ⟨g + 2, 0, none⟩ (.slice A8 n8 c8)).setCell ⟨g + 2, 1, none⟩ (.int .i64 (k8 : Int))).setCell ⟨g + 1, 7, none⟩ (.int .i64 (v8 : Int))) := (((Below.refl B w8).setCell (p := ⟨g + 2, 0, none⟩) (by have := HGB.out; simp only; omega) _).setCell (p := ⟨g + 2, 1, none⟩) (by have := HGB.out; simp only; omega) _).setCell (p := ⟨g + 1, 7, none⟩) (by have := HGB.out; simp only; omega) _
  have S := HU8.out.2.1.below bb
  rw [← hW8] at T S ⊢
  have HT8 := Lib.hid (And.intro T S)
  clear T S bb hW8
  obtain ⟨x0, x1, xf0, xf1⟩ := HT8.out.1.r.facts
  go_upto_region 12 with (go_at_call 33; go_must (refine (C9.out A8 c8 _ (Nat.le_trans HGB.out (Nat.le_of_lt HT8.out.1.z.lt)) HT8.out.2).mono ?_; rintro y w9 ⟨A9, c9, rfl, hS9, hb9⟩; have U := HT8.out.1.call hb9; obtain ⟨x0, x1, xf0, xf1⟩ := U.r.facts; obtain ⟨e0, e1, e2, e3, e4, e5, e6, e7, e8, e9, e10, e11⟩ := cells12 U.m; have f0 := frozen_own U.m 8; have HU9 := Lib.hid (And.intro U (And.intro hS9 trivial)); clear U hb9 hS9))
  clear x0 x1 xf0 xf1 e0 e1 e2 e3 e4 e5 e6 e7 e8 e9 e10 e11 f0
  obtain ⟨W9, hW9⟩ : ∃ W, W = ((w9.setCell ⟨g + 2, 0, none⟩ (.slice A9 n9 c9)).setCell ⟨g + 2, 1, none⟩ (.int .i64 (k9 : Int))).setCell ⟨g + 1, 8, none⟩ (.bool v9) := ⟨_, rfl⟩
  have T := (HU9.out.1.setR (.slice A9 n9 c9) (.int .i64 (k9 : Int))).set8 (.bool v9)
  have bb : Below B w9 (((w9.setCell ⟨g + 2, 0, none⟩ (.slice A9 n9 c9)).setCell ⟨g + 2, 1, none⟩ (.int .i64 (k9 : Int))).setCell ⟨g + 1, 8, none⟩ (.bool v9)) := (((Below.refl B w9).setCell (p := ⟨g + 2, 0, none⟩) (by have := HGB.out; simp only; omega) _).setCell (p := ⟨g + 2, 1, none⟩) (by have := HGB.out; simp only; omega) _).setCell (p := ⟨g + 1, 8, none⟩) (by have := HGB.out; simp only; omega) _
  have S := HU9.out.2.1.below bb
  rw [← hW9] at T S ⊢
  have HT9 := Lib.hid (And.intro T S)
  clear T S bb hW9
  obtain ⟨x0, x1, xf0, xf1⟩ := HT9.out.1.r.facts
  go_upto_region 13 with (go_at_call 32; go_must (refine (C10.out A9 c9 _ (Nat.le_trans HGB.out (Nat.le_of_lt HT9.out.1.z.lt)) HT9.out.2).mono ?_; rintro y w10 ⟨A10, c10, rfl, hS10, hb10⟩; have U := HT9.out.1.call hb10; obtain ⟨x0, x1, xf0, xf1⟩ := U.r.facts; obtain ⟨e0, e1, e2, e3, e4, e5, e6, e7, e8, e9, e10, e11⟩ := cells12 U.m; have f0 := frozen_own U.m 9; have HU10 := Lib.hid (And.intro U (And.intro hS10 trivial)); clear U hb10 hS10))
  clear x0 x1 xf0 xf1 e0 e1 e2 e3 e4 e5 e6 e7 e8 e9 e10 e11 f0
  obtain ⟨W10, hW10⟩ : ∃ W, W = ((w10.setCell ⟨g + 2, 0, none⟩ (.slice A10 n10 c10)).setCell ⟨g + 2, 1, none⟩ (.int .i64 (k10 : Int))).setCell ⟨g + 1, 9, none⟩ (.int .i64 (v10 : Int)) := ⟨_, rfl⟩
  have T := (HU10.out.1.setR (.slice A10 n10 c10) (.int .i64 (k10 : Int))).set9 (.int .i64 (v10 : Int))
  have bb : Below B w10 (((w10.setCell ⟨g + 2, 0, none⟩ (.slice A10 n10 c10)).setCell ⟨g + 2, 1, none⟩ (.int .i64 (k10 : Int))).setCell ⟨g + 1, 9, none⟩ (.int .i64 (v10 : Int))) := (((Below.refl B w10).setCell (p := ⟨g + 2, 0, none⟩) (by have := HGB.out; simp only; omega) _).setCell (p := ⟨g + 2, 1, none⟩) (by have := HGB.out; simp only; omega) _).setCell (p := ⟨g + 1, 9, none⟩) (by have := HGB.out; simp only; omega) _
  have S := HU10.out.2.1.below bb
  rw [← hW10] at T S ⊢
  have HT10 := Lib.hid (And.intro T S)
  clear T S bb hW10
  obtain ⟨x0, x1, xf0, xf1⟩ := HT10.out.1.r.facts
  go_upto_region 14 with (go_at_call 34; go_must (refine (C11.out A10 c10 _ (Nat.le_trans HGB.out (Nat.le_of_lt HT10.out.1.z.lt)) HT10.out.2).mono ?_; rintro y w11 ⟨A11, c11, Ab, cb, rfl, hS11, hX, hb11⟩; have U := HT10.out.1.call hb11; obtain ⟨x0, x1, xf0, xf1⟩ := U.r.facts; obtain ⟨e0, e1, e2, e3, e4, e5, e6, e7, e8, e9, e10, e11⟩ := cells12 U.m; have f0 := frozen_own U.m 10; have HU11 := Lib.hid (And.intro U (And.intro hS11 hX)); clear U hb11 hS11 hX))
  clear x0 x1 xf0 xf1 e0 e1 e2 e3 e4 e5 e6 e7 e8 e9 e10 e11 f0
  obtain ⟨W11, hW11⟩ : ∃ W, W = ((w11.setCell ⟨g + 2, 0, none⟩ (.slice A11 n11 c11)).setCell ⟨g + 2, 1, none⟩ (.int .i64 (k11 : Int))).setCell ⟨g + 1, 10, none⟩ (.slice Ab m11 cb) := ⟨_, rfl⟩
  have T := (HU11.out.1.setR (.slice A11 n11 c11) (.int .i64 (k11 : Int))).set10 (.slice Ab m11 cb)
  have bb : Below B w11 (((w11.setCell ⟨g + 2, 0, none⟩ (.slice A11 n11 c11)).setCell ⟨g + 2, 1, none⟩ (.int .i64 (k11 : Int))).setCell ⟨g + 1, 10, none⟩ (.slice Ab m11 cb)) := (((Below.refl B w11).setCell (p := ⟨g + 2, 0, none⟩) (by have := HGB.out; simp only; omega) _).setCell (p := ⟨g + 2, 1, none⟩) (by have := HGB.out; simp only; omega) _).setCell (p := ⟨g + 1, 10, none⟩) (by have := HGB.out; simp only; omega) _
  have S := HU11.out.2.1.below bb
  have X := HU11.out.2.2.below bb
  rw [← hW11] at T S X ⊢
  have HT11 := Lib.hid (And.intro T (And.intro S X))
  clear X
  clear T S bb hW11
  obtain ⟨x0, x1, xf0, xf1⟩ := HT11.out.1.r.facts
  go_upto_region 15 with (go_at_call 35; go_must (refine (C12.out A11 c11 _ (Nat.le_trans HGB.out (Nat.le_of_lt HT11.out.1.z.lt)) HT11.out.2.1).mono ?_; rintro y w12 ⟨A12, c12, rfl, hS12, hb12⟩; have U := HT11.out.1.call hb12; obtain ⟨x0, x1, xf0, xf1⟩ := U.r.facts; have HU12 := Lib.hid (And.intro U (And.intro hS12 (HT11.out.2.2.below (hb12.mono (Nat.le_trans HGB.out (Nat.le_of_lt HT11.out.1.z.lt)))))); clear U hb12 hS12))
  clear x0 x1 xf0 xf1
  obtain ⟨W12, hW12⟩ : ∃ W, W = (w12.setCell ⟨g + 2, 0, none⟩ (.slice A12 n12 c12)).setCell ⟨g + 2, 1, none⟩ (.int .i64 (k12 : Int)) := ⟨_, rfl⟩
  have T := HU12.out.1.setR (.slice A12 n12 c12) (.int .i64 (k12 : Int))
  have bb : Below B w12 ((w12.setCell ⟨g + 2, 0, none⟩ (.slice A12 n12 c12)).setCell ⟨g + 2, 1, none⟩ (.int .i64 (k12 : Int))) := ((Below.refl B w12).setCell (p := ⟨g + 2, 0, none⟩) (by have := HGB.out; simp only; omega) _).setCell (p := ⟨g + 2, 1, none⟩) (by have := HGB.out; simp only; omega) _
  have S := HU12.out.2.1.below bb
  have X := HU12.out.2.2.below bb
  rw [← hW12] at T S X ⊢
  have HT12 := Lib.hid (And.intro T (And.intro S X))
  clear T S X bb hW12
  go_wp2_with fail
  go_loopw [7, 8] (fun okv ii wr => ∃ (j : Nat) (es : List En) (okb : Bool) (s : List UInt8) (k nn : Nat) (A' : Option Addr) (c' : Nat) (va : Value), okv = .bool okb ∧ ii = .int .i64 (j : Int) ∧ es.length = j ∧ nn = s.length ∧ Mk w g wr (.slice A' nn c') (.int .i64 (k : Int)) (.int .i64 (v1 : Int)) (.int .i64 (v2 : Int)) (.int .i64 (v3 : Int)) (.int .i64 (v4 : Int)) (.int .i64 (v5 : Int)) (.int .i64 (v6 : Int)) (.int .i64 (v7 : Int)) (.int .i64 (v8 : Int)) (.bool v9) (.int .i64 (v10 : Int)) (.slice Ab m11 cb) va ∧ Sl wr B (.slice A' nn c') s ∧ Sl wr B (.slice Ab m11 cb) v11 ∧ OwnE wr (g + 3) (fun k => k < B) 71 va es ∧ LD cnt j s k okb es sF kF okF esF) (fun _ ii _ => cnt - (intOf ii).toNat)
  case atStart => exact ⟨0, [], true, s12, k12, n12, A12, c12, .slice none 0 0, rfl, rfl, rfl, HNN.out, HT12.out.1, HT12.out.2.1, HT12.out.2.2, OwnE.nil_ _ _ _ _, HLD.out⟩
  case round =>
    obtain ⟨j, es, okb, s, k, nn, A', c', va, rfl, rfl, hes, hnn, hmk, hs, hx, how, hld⟩ := hrel
    have hBg := HGB.out
    obtain ⟨Av, cv, rfl, -, -⟩ := how.form hes
    by_cases hgo : j < cnt ∧ k = 0
    · obtain ⟨hlt, rfl⟩ := hgo
      have i1 : (j : Int) < (cnt : Int) := by omega
      have e00 : ((0 : Nat) : Int) = 0 := rfl
      rw [e00] at hmk
      rcases hrb : rBytes 98 4200 (s, 0) with ⟨⟨t1, q1⟩, x⟩
      rcases hde : decE x with ⟨e, f⟩
      obtain ⟨nn1, hnn1⟩ : ∃ nn1, nn1 = t1.length := ⟨_, rfl⟩
      obtain ⟨mx, hmx⟩ : ∃ mx, mx = x.length := ⟨_, rfl⟩
      obtain ⟨me, hme⟩ : ∃ me, me = e.data.length := ⟨_, rfl⟩
      have hsB : B ≤ wr.heap.size := Nat.le_trans hBg (Nat.le_of_lt hmk.z.lt)
      have CR := Lib.hid (ReadBytes_s A' nn c' 0 4200 (by omega) s wr B hsB hs t1 x q1 nn1 mx hrb hnn1 hmx)
      have CD := Lib.hid fun Ax cx W hB' hS => RefDec_s Ax mx cx x W B hB' hS e f me hde hme
      have HM := Lib.hid (And.intro hmk (And.intro hx (And.intro how hsB)))
      have HL := Lib.hid (ld_next hld hlt hrb hde)
      have HK := Lib.hid (And.intro hes (And.intro hnn1 (And.intro hme hlt)))
      rw [e00] at CR
      obtain ⟨x0, x1, xf0, xf1⟩ := hmk.r.facts
      clear hmk hx how hsB hld hrb hde hnn1 hmx hme hes hnn hs hlt hBg
      go_upto_region 20 with fail
      go_upto_region 21 with (go_at_call 34; go_must (refine CR.out.mono ?_; rintro y w1 ⟨A1, c1, Ax, cx, rfl, hS1, hX1, hb1⟩; have U := HM.out.1.call hb1; obtain ⟨x0, x1, xf0, xf1⟩ := U.r.facts; have HU := Lib.hid (And.intro U (And.intro hS1 (And.intro hX1 (And.intro (HM.out.2.1.below (hb1.mono HM.out.2.2.2)) (HM.out.2.2.1.more hb1))))); clear U hb1 hS1 hX1))
      clear x0 x1 xf0 xf1
      obtain ⟨V1, hV1⟩ : ∃ W, W = (w1.setCell ⟨g + 2, 0, none⟩ (.slice A1 nn1 c1)).setCell ⟨g + 2, 1, none⟩ (.int .i64 (q1 : Int)) := ⟨_, rfl⟩
      have T := HU.out.1.setR (.slice A1 nn1 c1) (.int .i64 (q1 : Int))
      have bb : Below B w1 ((w1.setCell ⟨g + 2, 0, none⟩ (.slice A1 nn1 c1)).setCell ⟨g + 2, 1, none⟩ (.int .i64 (q1 : Int))) := ((Below.refl B w1).setCell (p := ⟨g + 2, 0, none⟩) (by have := HGB.out; simp only; omega) _).setCell (p := ⟨g + 2, 1, none⟩) (by have := HGB.out; simp only; omega) _
      have S := HU.out.2.1.below bb
      have SX := HU.out.2.2.1.below bb
      have SD := HU.out.2.2.2.1.below bb
      have O := (HU.out.2.2.2.2.setp ⟨g + 2, 0, none⟩ (by have := HGB.out; simp only; omega) (by simp only; omega) (.slice A1 nn1 c1)).setp ⟨g + 2, 1, none⟩ (by have := HGB.out; simp only; omega) (by simp only; omega) (.int .i64 (q1 : Int))
      rw [← hV1] at T S SX SD O ⊢
      have hsV : B ≤ V1.heap.size := Nat.le_trans HGB.out (Nat.le_of_lt T.z.lt)
      have HV := Lib.hid (And.intro T (And.intro S (And.intro SX (And.intro SD (And.intro O hsV)))))
      clear T S SX SD O bb hV1 hsV
      go_upto_region 22 with (go_at_call 36; go_must (refine (CD.out Ax cx V1 HV.out.2.2.2.2.2 HV.out.2.2.1).mono ?_; rintro y w2 ⟨Ae, ce, rfl, hS2, hb2⟩; have H2 := Lib.hid (And.intro hS2 hb2); clear hS2 hb2))
      obtain ⟨V2, hV2⟩ : ∃ W, W = w2.alloc (Obj.cells #[.int .i64 e.index, .int .i64 e.term, .int .i64 e.kind, .slice Ae me ce] 71) := ⟨_, rfl⟩
      obtain ⟨q, hq⟩ : ∃ q, q = w2.heap.size := ⟨_, rfl⟩
      have hb3 : Below V1.heap.size V1 V2 := by rw [hV2]; exact H2.out.2.alloc H2.out.2.size _
      have hbB : Below B V1 V2 := hb3.mono HV.out.2.2.2.2.2
      have hbw : Below w2.heap.size w2 V2 := by rw [hV2]; exact below_alloc _ _
      have E : E4 V2 q (.int .i64 e.index) (.int .i64 e.term) (.int .i64 e.kind) (.slice Ae me ce) := by rw [hV2, hq]; exact heap_alloc_new _ _
      have T := HV.out.1.call hb3
      have H3 := Lib.hid (And.intro T (And.intro (HV.out.2.1.below hbB) (And.intro (HV.out.2.2.2.1.below hbB) (And.intro (HV.out.2.2.2.2.1.more hb3) (And.intro (H2.out.1.below (hbw.mono (Nat.le_trans HV.out.2.2.2.2.2 H2.out.2.size))) (And.intro E (show g + 2 < V2.heap.size from T.r.lt)))))))
      rw [← hV2, ← hq]
      clear hV2 hq hb3 hbB hbw E T
      obtain ⟨ob, hob⟩ : ∃ ob, ob = (okb && decide (f = 0)) := ⟨_, rfl⟩
      have HL2 := Lib.hid (show LD cnt (j + 1) t1 q1 ob (es ++ [e]) sF kF okF esF by rw [hob]; exact HL.out)
      clear HL
      have three : (okb = false ∧ ob = false) ∨ (okb = true ∧ f = 0 ∧ ob = true) ∨ (okb = true ∧ ((f : Int) == 0) = false ∧ ob = false) := by
        subst hob
        cases okb
        · exact Or.inl ⟨rfl, rfl⟩
        · by_cases hf : f = 0
          · exact Or.inr (Or.inl ⟨rfl, hf, by simp [hf]⟩)
          · exact Or.inr (Or.inr ⟨rfl, by simp; exact hf, by simp [hf]⟩)
      clear hob
      obtain ⟨e0, e1, e2, e3⟩ := cells4 H3.out.2.2.2.2.2.1
      obtain ⟨y0, y1, y2, y3, y4, y5, y6, y7, y8, y9, y10, y11⟩ := cells12 H3.out.1.m
      clear y0 y1 y2 y3 y4 y5 y6 y7 y8 y9 y10
      have e00 : ((0 : Nat) : Int) = 0 := rfl
      rcases three with ⟨rfl, rfl⟩ | ⟨rfl, rfl, rfl⟩ | ⟨rfl, hf, rfl⟩
      all_goals
        try rw [e00]
        go_upto_region 23 with fail
        go_upto_region 18 with (at_builtin; go_must (refine wpList_pushE (B := g + 3) (Q := fun k => k < B) (t := 71) (l := es) (H3.out.2.2.2.1.more (below_alloc V2 _)) rfl _ _ 23 Tryz.underlying23 info_ref_ rfl rfl V2.heap.size e Ae ce rfl ?c0 ?c1 ?c2 ?c3 ?c4))
        case c0 => rw [← HK.out.2.2.1]; exact heap_alloc_new V2 _
        case c1 =>
          rw [← HK.out.2.2.1]
          have hsz := H3.out.2.2.2.2.2.2
          have hBg := HGB.out
          refine ((H3.out.2.2.2.2.1.below ((below_alloc V2 _).mono (by omega))).toT).mono fun k hk => ⟨hk, by rw [World.size_alloc]; omega, fun e' => ?_⟩
          have h1 := (H3.out.2.2.2.1.lt k e').1
          omega
        case c2 => have h1 := HK.out.1; have h2 := HK.out.2.2.2; have h3 := HCN.out; omega
        case c3 => have h1 := H3.out.2.2.2.2.2.2; rw [World.size_alloc]; omega
        case c4 =>
          intro v' w' ho' hg' _
          obtain ⟨Av2, cv2, rfl, -, -⟩ := ho'.form (j := j + 1) (by rw [List.length_append, HK.out.1]; rfl)
          have hsz := H3.out.2.2.2.2.2.2
          have hBg := HGB.out
          have hb5 : Below (g + 3) V2 w' := ((below_alloc V2 (Obj.cells #[.int .i64 e.index, .int .i64 e.term, .int .i64 e.kind, .slice Ae me ce] 71)).mono (by omega)).trans ((Below.refl (g + 3) _).grown hg' (by rw [World.size_alloc]; omega) fun k hk => (H3.out.2.2.2.1.lt k hk).1)
          have hbB : Below B V2 w' := hb5.mono (by omega)
          have T := H3.out.1.beneath hb5
          obtain ⟨y0, y1, y2, y3, y4, y5, y6, y7, y8, y9, y10, y11⟩ := cells12 T.m
          have f11 := frozen_own T.m 11
          have H4 := Lib.hid (And.intro (T.set11 (.slice Av2 (j + 1) cv2)) (And.intro ((H3.out.2.1.below hbB).below ((Below.refl B w').setCell (p := ⟨g + 1, 11, none⟩) (by simp only; omega) (.slice Av2 (j + 1) cv2))) (And.intro ((H3.out.2.2.1.below hbB).below ((Below.refl B w').setCell (p := ⟨g + 1, 11, none⟩) (by simp only; omega) (.slice Av2 (j + 1) cv2))) (ho'.setp ⟨g + 1, 11, none⟩ (by simp only; omega) (by simp only; omega) (.slice Av2 (j + 1) cv2)))))
          clear T ho' hg' hb5 hbB hsz hBg y0 y1 y2 y3 y4 y5 y6 y7 y8 y9 y10
          have hjj := HK.out.2.2.2
          have hcc := HCN.out
          go_upto_region 18 with fail
          go_wp2_with fail
          go_roundw
          case rel => exact ⟨j + 1, es ++ [e], _, t1, q1, nn1, A1, c1, _, rfl, by go_num, by rw [List.length_append, HK.out.1]; rfl, HK.out.2.1, H4.out.1, H4.out.2.1, H4.out.2.2.1, H4.out.2.2.2, HL2.out⟩
          case measure => have := HK.out.2.2.2; simp [intOf]; omega
    · have hend : j = cnt ∨ k ≠ 0 := by have := hld.le; omega
      obtain ⟨z1, z2, z3, z4⟩ := ld_end hld hend
      subst z1
      subst z2
      subst z3
      subst z4
      have hexit : ¬ ((j : Int) < (cnt : Int)) ∨ ((j : Int) < (cnt : Int) ∧ ((k : Int) == 0) = false) := by
        rcases hend with h1 | h1
        · exact Or.inl (by omega)
        · by_cases h2 : j < cnt
          · exact Or.inr ⟨by omega, by simp; exact h1⟩
          · exact Or.inl (by omega)
      obtain ⟨x0, x1, xf0, xf1⟩ := hmk.r.facts
      have hsB : B ≤ wr.heap.size := Nat.le_trans hBg (Nat.le_of_lt hmk.z.lt)
      have hin : InM ⟨(v1 : Int), (v2 : Int), (v3 : Int), (v4 : Int), (v5 : Int), (v6 : Int), (v7 : Int), (v8 : Int), v9, (v10 : Int), v11, es⟩ Ab m11 cb Av j cv wr := ⟨Bys.of_sl (hx.more hsB), ⟨how.ents, hld.fit⟩, HI0.out⟩
      obtain ⟨d, hd⟩ : ∃ d, d = doneR (s, k) := ⟨_, rfl⟩
      obtain ⟨bm, hbm⟩ : ∃ bm, bm = mayM ⟨(v1 : Int), (v2 : Int), (v3 : Int), (v4 : Int), (v5 : Int), (v6 : Int), (v7 : Int), (v8 : Int), v9, (v10 : Int), v11, es⟩ := ⟨_, rfl⟩
      have hfin := HFIN.out
      rw [← hd, ← hbm] at hfin
      have HDD := Lib.hid (RefDone_s A' nn c' k s hnn wr d hd)
      have HMay := Lib.hid (show ∀ W, Below wr.heap.size wr W → Calls Tryz.prog 15 #[.agg #[.int .i64 (v1 : Int), .int .i64 (v2 : Int), .int .i64 (v3 : Int), .int .i64 (v4 : Int), .int .i64 (v5 : Int), .int .i64 (v6 : Int), .int .i64 (v7 : Int), .int .i64 (v8 : Int), .bool v9, .int .i64 (v10 : Int), .slice Ab m11 cb, .slice Av j cv]] W fun y w' => y = .returned (.bool bm) ∧ Below W.heap.size W w' from fun W hW => May_m ⟨(v1 : Int), (v2 : Int), (v3 : Int), (v4 : Int), (v5 : Int), (v6 : Int), (v7 : Int), (v8 : Int), v9, (v10 : Int), v11, es⟩ Ab m11 cb Av j cv W (hin.below hW) bm hbm)
      have four : (((d : Int) != 0) = true ∧ m = zm ∧ kk = 3) ∨ (d = 0 ∧ okb = false ∧ m = zm ∧ kk = 3) ∨ (d = 0 ∧ okb = true ∧ bm = false ∧ m = zm ∧ kk = 3) ∨ (d = 0 ∧ okb = true ∧ bm = true ∧ m = ⟨(v1 : Int), (v2 : Int), (v3 : Int), (v4 : Int), (v5 : Int), (v6 : Int), (v7 : Int), (v8 : Int), v9, (v10 : Int), v11, es⟩ ∧ kk = 0) := by
        clear hbm hin HMay HDD hd
        by_cases h0 : d = 0
        · cases okb with
          | false => rw [if_neg (by simp)] at hfin; injection hfin with p1 p2; exact Or.inr (Or.inl ⟨h0, rfl, p1, p2⟩)
          | true =>
            cases bm with
            | false => rw [if_neg (by simp)] at hfin; injection hfin with p1 p2; exact Or.inr (Or.inr (Or.inl ⟨h0, rfl, rfl, p1, p2⟩))
            | true => rw [if_pos (by simp [h0])] at hfin; injection hfin with p1 p2; exact Or.inr (Or.inr (Or.inr ⟨h0, rfl, rfl, p1, p2⟩))
        · rw [if_neg (by simp [h0])] at hfin; injection hfin with p1 p2; exact Or.inl ⟨by simp; omega, p1, p2⟩
      have HM := Lib.hid (And.intro hmk (And.intro hs (And.intro hx (And.intro how (And.intro hnn (And.intro hes hld.fit))))))
      clear hmk hs hx how hnn hld hend hBg hgo hin hd hbm hfin hsB
      have e00 : ((0 : Nat) : Int) = 0 := rfl
      rcases hexit with h1 | ⟨h1, h2⟩
      all_goals
        go_upto_region 24 with fail
        rcases four with ⟨c0, rfl, rfl⟩ | ⟨rfl, rfl, rfl, rfl⟩ | ⟨rfl, rfl, rfl, rfl, rfl⟩ | ⟨rfl, rfl, rfl, rfl, rfl⟩
        · go_wp2_with (go_at_call 37; go_must (refine HDD.out.mono ?_; rintro y W2 ⟨rfl, hb2⟩; have T := HM.out.1.call hb2; obtain ⟨y0, y1, y2, y3, y4, y5, y6, y7, y8, y9, y10, y11⟩ := cells12 T.m; obtain ⟨z0, z1, z2, z3, z4, z5, z6, z7, z8, z9, z10, z11⟩ := cells12 T.z; have f0 := frozen_own T.z 0; have f1 := frozen_own T.z 1; have f2 := frozen_own T.z 2; have f3 := frozen_own T.z 3; have f4 := frozen_own T.z 4; have f5 := frozen_own T.z 5; have f6 := frozen_own T.z 6; have f7 := frozen_own T.z 7; have f8 := frozen_own T.z 8; have f9 := frozen_own T.z 9; have f10 := frozen_own T.z 10; have f11 := frozen_own T.z 11; have H2 := Lib.hid (And.intro T (And.intro (HM.out.2.2.1.below (hb2.mono (Nat.le_trans HGB.out (Nat.le_of_lt HM.out.1.z.lt)))) (HM.out.2.2.2.1.more hb2))); have H2B := Lib.hid hb2; clear T hb2))
          obtain ⟨F, hF, hE, hbQ, hoth, hsF⟩ := put12 H2.out.1.z (.int .i64 0) (.int .i64 0) (.int .i64 0) (.int .i64 0) (.int .i64 0) (.int .i64 0) (.int .i64 0) (.int .i64 0) (.bool false) (.int .i64 0) (.slice none 0 0) (.slice none 0 0)
          rw [← hF]
          clear hF z0 z1 z2 z3 z4 z5 z6 z7 z8 z9 z10 z11
          obtain ⟨z0, z1, z2, z3, z4, z5, z6, z7, z8, z9, z10, z11⟩ := cells12 hE
          have hnd : nd = 0 := HND.out.1
          have hne : ne = 0 := HND.out.2
          subst hnd
          subst hne
          exact bodyPost_ret (v := .tuple #[.agg #[.int .i64 0, .int .i64 0, .int .i64 0, .int .i64 0, .int .i64 0, .int .i64 0, .int .i64 0, .int .i64 0, .bool false, .int .i64 0, .slice none 0 0, .slice none 0 0], .int .i64 3]) (by simp [results, Tryz.results12, go_sem, z0, z1, z2, z3, z4, z5, z6, z7, z8, z9, z10, z11]) rfl ⟨none, 0, none, 0, rfl, ⟨SlT.nil_ _ _, ⟨[], RowT.nil_ _ _ _, fun j h => by simp [zm] at h⟩, fun e he => (by cases he), (by unfold zm inI; decide)⟩, by have := H2.out.1.bel.trans (hbQ g (Nat.le_refl _)); rw [HG.out] at this; exact this⟩
        · rw [e00] at HDD
          go_wp2_with (go_at_call 37; go_must (refine HDD.out.mono ?_; rintro y W2 ⟨rfl, hb2⟩; have T := HM.out.1.call hb2; obtain ⟨y0, y1, y2, y3, y4, y5, y6, y7, y8, y9, y10, y11⟩ := cells12 T.m; obtain ⟨z0, z1, z2, z3, z4, z5, z6, z7, z8, z9, z10, z11⟩ := cells12 T.z; have f0 := frozen_own T.z 0; have f1 := frozen_own T.z 1; have f2 := frozen_own T.z 2; have f3 := frozen_own T.z 3; have f4 := frozen_own T.z 4; have f5 := frozen_own T.z 5; have f6 := frozen_own T.z 6; have f7 := frozen_own T.z 7; have f8 := frozen_own T.z 8; have f9 := frozen_own T.z 9; have f10 := frozen_own T.z 10; have f11 := frozen_own T.z 11; have H2 := Lib.hid (And.intro T (And.intro (HM.out.2.2.1.below (hb2.mono (Nat.le_trans HGB.out (Nat.le_of_lt HM.out.1.z.lt)))) (HM.out.2.2.2.1.more hb2))); have H2B := Lib.hid hb2; clear T hb2))
          obtain ⟨F, hF, hE, hbQ, hoth, hsF⟩ := put12 H2.out.1.z (.int .i64 0) (.int .i64 0) (.int .i64 0) (.int .i64 0) (.int .i64 0) (.int .i64 0) (.int .i64 0) (.int .i64 0) (.bool false) (.int .i64 0) (.slice none 0 0) (.slice none 0 0)
          rw [← hF]
          clear hF z0 z1 z2 z3 z4 z5 z6 z7 z8 z9 z10 z11
          obtain ⟨z0, z1, z2, z3, z4, z5, z6, z7, z8, z9, z10, z11⟩ := cells12 hE
          have hnd : nd = 0 := HND.out.1
          have hne : ne = 0 := HND.out.2
          subst hnd
          subst hne
          exact bodyPost_ret (v := .tuple #[.agg #[.int .i64 0, .int .i64 0, .int .i64 0, .int .i64 0, .int .i64 0, .int .i64 0, .int .i64 0, .int .i64 0, .bool false, .int .i64 0, .slice none 0 0, .slice none 0 0], .int .i64 3]) (by simp [results, Tryz.results12, go_sem, z0, z1, z2, z3, z4, z5, z6, z7, z8, z9, z10, z11]) rfl ⟨none, 0, none, 0, rfl, ⟨SlT.nil_ _ _, ⟨[], RowT.nil_ _ _ _, fun j h => by simp [zm] at h⟩, fun e he => (by cases he), (by unfold zm inI; decide)⟩, by have := H2.out.1.bel.trans (hbQ g (Nat.le_refl _)); rw [HG.out] at this; exact this⟩
        · rw [e00] at HDD
          go_wp2_with (first | (go_at_call 37; go_must (refine HDD.out.mono ?_; rintro y W2 ⟨rfl, hb2⟩; have T := HM.out.1.call hb2; obtain ⟨y0, y1, y2, y3, y4, y5, y6, y7, y8, y9, y10, y11⟩ := cells12 T.m; obtain ⟨z0, z1, z2, z3, z4, z5, z6, z7, z8, z9, z10, z11⟩ := cells12 T.z; have f0 := frozen_own T.z 0; have f1 := frozen_own T.z 1; have f2 := frozen_own T.z 2; have f3 := frozen_own T.z 3; have f4 := frozen_own T.z 4; have f5 := frozen_own T.z 5; have f6 := frozen_own T.z 6; have f7 := frozen_own T.z 7; have f8 := frozen_own T.z 8; have f9 := frozen_own T.z 9; have f10 := frozen_own T.z 10; have f11 := frozen_own T.z 11; have H2 := Lib.hid (And.intro T (And.intro (HM.out.2.2.1.below (hb2.mono (Nat.le_trans HGB.out (Nat.le_of_lt HM.out.1.z.lt)))) (HM.out.2.2.2.1.more hb2))); have H2B := Lib.hid hb2; clear T hb2)) | (go_at_call 15; go_must (refine (HMay.out W2 H2B.out).mono ?_; rintro y w3 ⟨rfl, hb3⟩; have T := H2.out.1.call hb3; clear y0 y1 y2 y3 y4 y5 y6 y7 y8 y9 y10 y11 z0 z1 z2 z3 z4 z5 z6 z7 z8 z9 z10 z11 f0 f1 f2 f3 f4 f5 f6 f7 f8 f9 f10 f11; obtain ⟨y0, y1, y2, y3, y4, y5, y6, y7, y8, y9, y10, y11⟩ := cells12 T.m; obtain ⟨z0, z1, z2, z3, z4, z5, z6, z7, z8, z9, z10, z11⟩ := cells12 T.z; have f0 := frozen_own T.z 0; have f1 := frozen_own T.z 1; have f2 := frozen_own T.z 2; have f3 := frozen_own T.z 3; have f4 := frozen_own T.z 4; have f5 := frozen_own T.z 5; have f6 := frozen_own T.z 6; have f7 := frozen_own T.z 7; have f8 := frozen_own T.z 8; have f9 := frozen_own T.z 9; have f10 := frozen_own T.z 10; have f11 := frozen_own T.z 11; have H3 := Lib.hid (And.intro T (And.intro (H2.out.2.1.below (hb3.mono (Nat.le_trans HGB.out (Nat.le_of_lt H2.out.1.z.lt)))) (H2.out.2.2.more hb3))); clear T hb3)))
          obtain ⟨F, hF, hE, hbQ, hoth, hsF⟩ := put12 H3.out.1.z (.int .i64 0) (.int .i64 0) (.int .i64 0) (.int .i64 0) (.int .i64 0) (.int .i64 0) (.int .i64 0) (.int .i64 0) (.bool false) (.int .i64 0) (.slice none 0 0) (.slice none 0 0)
          rw [← hF]
          clear hF z0 z1 z2 z3 z4 z5 z6 z7 z8 z9 z10 z11
          obtain ⟨z0, z1, z2, z3, z4, z5, z6, z7, z8, z9, z10, z11⟩ := cells12 hE
          have hnd : nd = 0 := HND.out.1
          have hne : ne = 0 := HND.out.2
          subst hnd
          subst hne
          exact bodyPost_ret (v := .tuple #[.agg #[.int .i64 0, .int .i64 0, .int .i64 0, .int .i64 0, .int .i64 0, .int .i64 0, .int .i64 0, .int .i64 0, .bool false, .int .i64 0, .slice none 0 0, .slice none 0 0], .int .i64 3]) (by simp [results, Tryz.results12, go_sem, z0, z1, z2, z3, z4, z5, z6, z7, z8, z9, z10, z11]) rfl ⟨none, 0, none, 0, rfl, ⟨SlT.nil_ _ _, ⟨[], RowT.nil_ _ _ _, fun j h => by simp [zm] at h⟩, fun e he => (by cases he), (by unfold zm inI; decide)⟩, by have := H3.out.1.bel.trans (hbQ g (Nat.le_refl _)); rw [HG.out] at this; exact this⟩
        · rw [e00] at HDD
          go_wp2_with (first | (go_at_call 37; go_must (refine HDD.out.mono ?_; rintro y W2 ⟨rfl, hb2⟩; have T := HM.out.1.call hb2; obtain ⟨y0, y1, y2, y3, y4, y5, y6, y7, y8, y9, y10, y11⟩ := cells12 T.m; obtain ⟨z0, z1, z2, z3, z4, z5, z6, z7, z8, z9, z10, z11⟩ := cells12 T.z; have f0 := frozen_own T.z 0; have f1 := frozen_own T.z 1; have f2 := frozen_own T.z 2; have f3 := frozen_own T.z 3; have f4 := frozen_own T.z 4; have f5 := frozen_own T.z 5; have f6 := frozen_own T.z 6; have f7 := frozen_own T.z 7; have f8 := frozen_own T.z 8; have f9 := frozen_own T.z 9; have f10 := frozen_own T.z 10; have f11 := frozen_own T.z 11; have H2 := Lib.hid (And.intro T (And.intro (HM.out.2.2.1.below (hb2.mono (Nat.le_trans HGB.out (Nat.le_of_lt HM.out.1.z.lt)))) (HM.out.2.2.2.1.more hb2))); have H2B := Lib.hid hb2; clear T hb2)) | (go_at_call 15; go_must (refine (HMay.out W2 H2B.out).mono ?_; rintro y w3 ⟨rfl, hb3⟩; have T := H2.out.1.call hb3; clear y0 y1 y2 y3 y4 y5 y6 y7 y8 y9 y10 y11 z0 z1 z2 z3 z4 z5 z6 z7 z8 z9 z10 z11 f0 f1 f2 f3 f4 f5 f6 f7 f8 f9 f10 f11; obtain ⟨y0, y1, y2, y3, y4, y5, y6, y7, y8, y9, y10, y11⟩ := cells12 T.m; obtain ⟨z0, z1, z2, z3, z4, z5, z6, z7, z8, z9, z10, z11⟩ := cells12 T.z; have f0 := frozen_own T.z 0; have f1 := frozen_own T.z 1; have f2 := frozen_own T.z 2; have f3 := frozen_own T.z 3; have f4 := frozen_own T.z 4; have f5 := frozen_own T.z 5; have f6 := frozen_own T.z 6; have f7 := frozen_own T.z 7; have f8 := frozen_own T.z 8; have f9 := frozen_own T.z 9; have f10 := frozen_own T.z 10; have f11 := frozen_own T.z 11; have H3 := Lib.hid (And.intro T (And.intro (H2.out.2.1.below (hb3.mono (Nat.le_trans HGB.out (Nat.le_of_lt H2.out.1.z.lt)))) (H2.out.2.2.more hb3))); clear T hb3)))
          obtain ⟨F, hF, hE, hbQ, hoth, hsF⟩ := put12 H3.out.1.z (.int .i64 (v1 : Int)) (.int .i64 (v2 : Int)) (.int .i64 (v3 : Int)) (.int .i64 (v4 : Int)) (.int .i64 (v5 : Int)) (.int .i64 (v6 : Int)) (.int .i64 (v7 : Int)) (.int .i64 (v8 : Int)) (.bool v9) (.int .i64 (v10 : Int)) (.slice Ab m11 cb) (.slice Av j cv)
          rw [← hF]
          clear hF z0 z1 z2 z3 z4 z5 z6 z7 z8 z9 z10 z11
          obtain ⟨z0, z1, z2, z3, z4, z5, z6, z7, z8, z9, z10, z11⟩ := cells12 hE
          have hnd := HND.out.1
          have hne := HND.out.2
          have hO := (H3.out.2).2
          have hin : InT ⟨(v1 : Int), (v2 : Int), (v3 : Int), (v4 : Int), (v5 : Int), (v6 : Int), (v7 : Int), (v8 : Int), v9, (v10 : Int), v11, es⟩ Ab m11 cb Av j cv (fun q => (q < B ∨ w.heap.size < q) ∧ q < F.heap.size) F := ⟨SlT.mono (((H3.out.2).1.below (hbQ B HGB.out)).toT) fun q hq => ⟨Or.inl hq, by have h1 : q < B := hq; have h2 := HGB.out; have h3 := H3.out.1.z.lt; omega⟩, (hO.put HGB.out hoth hsF).entsT _ (fun q hq hs => ⟨Or.inl hq, hs⟩) (fun q hq hs => ⟨Or.inr (by have := HG.out; omega), hs⟩), HM.out.2.2.2.2.2.2, HI0.out⟩
          have hnd' : m11 = nd := HM11.out.trans hnd.symm
          have hne' : j = ne := HM.out.2.2.2.2.2.1.symm.trans hne.symm
          subst hnd'
          subst hne'
          exact bodyPost_ret (v := .tuple #[.agg #[.int .i64 (v1 : Int), .int .i64 (v2 : Int), .int .i64 (v3 : Int), .int .i64 (v4 : Int), .int .i64 (v5 : Int), .int .i64 (v6 : Int), .int .i64 (v7 : Int), .int .i64 (v8 : Int), .bool v9, .int .i64 (v10 : Int), .slice Ab m11 cb, .slice Av j cv], .int .i64 0]) (by simp [results, Tryz.results12, go_sem, z0, z1, z2, z3, z4, z5, z6, z7, z8, z9, z10, z11]) rfl ⟨Ab, cb, Av, cv, rfl, hin, by have := H3.out.1.bel.trans (hbQ g (Nat.le_refl _)); rw [HG.out] at this; exact this⟩


end Go.Proofs.YtfblgkcipnkhaaaGreatDoor.pk

/-
  The document's own reader of a message; what Open is.
-/
namespace Go.Proofs.YtfblgkcipnkhaaaGreatDoor.pk
open Go Go.RowKit
set_option maxRecDepth 100000

theorem rCount_le {most : Nat} {s s' : List UInt8 × Nat} {v : Nat} (h : rCount most s = (s', v)) : v ≤ most := by
  unfold rCount at h
  by_cases h0 : s.2 = 0
  · rw [if_pos h0] at h
    by_cases h1 : (rdUint most s.1).1 ≠ 0
    · rw [if_pos h1] at h
      injection h with a b
      omega
    · rw [if_neg h1] at h
      have h2 : (rdUint most s.1).1 = 0 := by omega
      have h3 := (rdUint_inv (most := most) (l := s.1) (n := (rdUint most s.1).2.1) (r := (rdUint most s.1).2.2) (Prod.ext h2 rfl)).2.1
      split at h
      · injection h with a b
        omega
      · injection h with a b
        omega
  · rw [if_neg h0] at h
    injection h with a b
    omega
theorem in_small {v : Nat} (h : v ≤ 1099511627776) : inI (v : Int) := by unfold inI; omega

set_option maxHeartbeats 4000000 in
theorem RefDecM_s (A : Option Addr) (n c : Nat) (b : List UInt8) (w : World) (B : Nat) (hB : B ≤ w.heap.size) (h : Sl w B (.slice A n c) b) (m : Ms) (k : Nat) (hr : (m, k) = decM b) (nd ne : Nat) (hnd : nd = m.data.length) (hne : ne = m.ents.length) :
    Calls Tryz.prog 12 #[.slice A n c] w fun y w' => ∃ Ad cd Ae ce, y = .returned (.tuple #[.agg #[.int .i64 m.kind, .int .i64 m.frm, .int .i64 m.to, .int .i64 m.term, .int .i64 m.index, .int .i64 m.logTerm, .int .i64 m.commit, .int .i64 m.round, .bool m.ok, .int .i64 m.off, .slice Ad nd cd, .slice Ae ne ce], .int .i64 (k : Int)]) ∧ InT m Ad nd cd Ae ne ce (fun q => (q < B ∨ w.heap.size < q) ∧ q < w'.heap.size) w' ∧ Below w.heap.size w w' := by
  rcases h1 : rUint 1099511627776 (b, 0) with ⟨⟨s1, k1⟩, v1⟩
  rcases h2 : rUint 1099511627776 (s1, k1) with ⟨⟨s2, k2⟩, v2⟩
  rcases h3 : rUint 1099511627776 (s2, k2) with ⟨⟨s3, k3⟩, v3⟩
  rcases h4 : rUint 1099511627776 (s3, k3) with ⟨⟨s4, k4⟩, v4⟩
  rcases h5 : rUint 1099511627776 (s4, k4) with ⟨⟨s5, k5⟩, v5⟩
  rcases h6 : rUint 1099511627776 (s5, k5) with ⟨⟨s6, k6⟩, v6⟩
  rcases h7 : rUint 1099511627776 (s6, k6) with ⟨⟨s7, k7⟩, v7⟩
  rcases h8 : rUint 1099511627776 (s7, k7) with ⟨⟨s8, k8⟩, v8⟩
  rcases h9 : rBool (s8, k8) with ⟨⟨s9, k9⟩, v9⟩
  rcases h10 : rUint 1099511627776 (s9, k9) with ⟨⟨s10, k10⟩, v10⟩
  rcases h11 : rBytes 98 4096 (s10, k10) with ⟨⟨s11, k11⟩, v11⟩
  rcases h12 : rCount 64 (s11, k11) with ⟨⟨s12, k12⟩, cnt⟩
  rcases ht : takeEs cnt (s12, k12) with ⟨⟨⟨sF, kF⟩, okF⟩, esF⟩
  have l1 : v1 ≤ 1099511627776 := by have := rUint_le 1099511627776 (b, 0); rw [h1] at this; exact this
  have l2 : v2 ≤ 1099511627776 := by have := rUint_le 1099511627776 (s1, k1); rw [h2] at this; exact this
  have l3 : v3 ≤ 1099511627776 := by have := rUint_le 1099511627776 (s2, k2); rw [h3] at this; exact this
  have l4 : v4 ≤ 1099511627776 := by have := rUint_le 1099511627776 (s3, k3); rw [h4] at this; exact this
  have l5 : v5 ≤ 1099511627776 := by have := rUint_le 1099511627776 (s4, k4); rw [h5] at this; exact this
  have l6 : v6 ≤ 1099511627776 := by have := rUint_le 1099511627776 (s5, k5); rw [h6] at this; exact this
  have l7 : v7 ≤ 1099511627776 := by have := rUint_le 1099511627776 (s6, k6); rw [h7] at this; exact this
  have l8 : v8 ≤ 1099511627776 := by have := rUint_le 1099511627776 (s7, k7); rw [h8] at this; exact this
  have l10 : v10 ≤ 1099511627776 := by have := rUint_le 1099511627776 (s9, k9); rw [h10] at this; exact this
  have hall : allR b = (((sF, kF), okF), ⟨(v1 : Int), (v2 : Int), (v3 : Int), (v4 : Int), (v5 : Int), (v6 : Int), (v7 : Int), (v8 : Int), v9, (v10 : Int), v11, esF⟩) := by
    unfold allR headR
    simp only [h1, h2, h3, h4, h5, h6, h7, h8, h9, h10, h11, h12, ht]
  have hfin : (m, k) = if (decide (doneR (sF, kF) = 0) && okF && mayM ⟨(v1 : Int), (v2 : Int), (v3 : Int), (v4 : Int), (v5 : Int), (v6 : Int), (v7 : Int), (v8 : Int), v9, (v10 : Int), v11, esF⟩) = true then (⟨(v1 : Int), (v2 : Int), (v3 : Int), (v4 : Int), (v5 : Int), (v6 : Int), (v7 : Int), (v8 : Int), v9, (v10 : Int), v11, esF⟩, 0) else (zm, 3) := by
    rw [hr]
    unfold decM okR
    rw [hall]
  exact Dec_walk A n c b w B hB h s1 k1 v1 s1.length h1 rfl s2 k2 v2 s2.length h2 rfl s3 k3 v3 s3.length h3 rfl s4 k4 v4 s4.length h4 rfl s5 k5 v5 s5.length h5 rfl s6 k6 v6 s6.length h6 rfl s7 k7 v7 s7.length h7 rfl s8 k8 v8 s8.length h8 rfl s9 k9 v9 s9.length h9 rfl s10 k10 v10 s10.length h10 rfl s11 k11 v11 s11.length h11 rfl v11.length rfl s12 k12 cnt s12.length h12 rfl sF kF okF esF ht (rCount_le h12) ⟨in_small l1, in_small l2, in_small l3, in_small l4, in_small l5, in_small l6, in_small l7, in_small l8, in_small l10⟩ m k hfin nd ne hnd hne

end Go.Proofs.YtfblgkcipnkhaaaGreatDoor.pk

/-
  The document's Open once more, with the place of what it gives (by script out of s2's text).
-/
namespace Go.Proofs.YtfblgkcipnkhaaaGreatDoor.pk
open Go Go.RowKit
set_option maxRecDepth 100000

set_option maxHeartbeats 1000000 in
theorem RefOpenB_any (A : Option Addr) (n c : Nat) (b : List UInt8) (w : World) (B : Nat) (hB : B ≤ w.heap.size) (h : Sl w B (.slice A n c) b) :
    Calls Tryz.prog 56 #[.slice A n c] w fun x w' => ∃ v, x = .returned (.tuple #[.int .u8 ((openK b).toNat : Int), v, .int .i64 (openE b : Int)]) ∧ Sl w' B v (openX b) ∧ Below w.heap.size w w' := by
  obtain ⟨hn, hc1, hc2⟩ := h.len
  by_cases h5 : b.length < 5
  · have he : openE b = 12 := by unfold openE; rw [if_pos h5]
    have hk : openK b = 0 := by unfold openK; rw [he]; rfl
    have hx : openX b = [] := by unfold openX; rw [he]; rfl
    have i1 : (n : Int) < 5 := by omega
    rw [he, hk, hx]
    clear he hk hx hn h h5
    go_enter Tryz.func56, Tryz.ntmps56
    go_wp2
    go_ret3
    exact ⟨_, rfl, Sl.nil_ _ _, Below.refl _ _⟩
  · obtain ⟨k0, r, rfl⟩ : ∃ k0 r, b = k0 :: r := by
      cases b with
      | nil => simp at h5
      | cons a r => exact ⟨a, r, rfl⟩
    obtain ⟨bk, off, rfl, hbk, hn1, hcc, hcm, hc0⟩ := h.head
    obtain ⟨m, hm⟩ : ∃ m, m = n - 4 := ⟨_, rfl⟩
    have hmn : m = (k0 :: r).length - 4 := by omega
    have hfr := h.front (k := m) (by omega)
    have hct := h.cut (k := m) (by omega)
    rw [if_neg (by omega), show n - m = 4 from by omega] at hct
    simp only [Option.map_some, Lib.add_plain] at hct
    have hc1' := hfr.cut (k := 1) (by rw [List.length_take]; omega)
    rw [if_neg (by omega)] at hc1'
    simp only [Option.map_some, Lib.add_plain] at hc1'
    have HC0 := Lib.hid hc0
    have HFR := Lib.hid hfr
    have HX1 := Lib.hid hc1'
    have HW : Hid (∀ W, Below w.heap.size w W → (convert 22 9 (.slice (some ⟨bk, off + m, none⟩) 4 (c - m))).run Tryz.prog W = .ok (.string ⟨((k0 :: r).drop m).toArray⟩) W) :=
      Lib.hid fun W hW => conv_bytes (hct.below (hW.mono hB))
    have hE : openE (k0 :: r) = if tail4 (sum ((k0 :: r).take m)) ≠ (k0 :: r).drop m then 11 else if k0 = 0 then 1 else if 1048577 < m then 2 else 0 := by
      unfold openE
      rw [if_neg h5, ← hmn]
      rfl
    have hX : openX (k0 :: r) = if openE (k0 :: r) = 0 then ((k0 :: r).take m).drop 1 else [] := by unfold openX; rw [← hmn]
    have hK : openK (k0 :: r) = if openE (k0 :: r) = 0 then k0 else 0 := rfl
    have HS := Lib.hid (sum_lt ((k0 :: r).take m))
    have HE := Lib.hid hE
    have HX := Lib.hid hX
    have HKK := Lib.hid hK
    have HM := Lib.hid (show 1 ≤ m ∧ m + 4 = n by omega)
    have i1 : ¬ (n : Int) < 5 := by omega
    have i2 : (n : Int) - 4 = (m : Int) := by omega
    have i3 : IntKind.i64.wrap (m : Int) = (m : Int) := IntWalk.i64_in _ (by omega)
    have i4 : (m : Int) ≤ (n : Int) := by omega
    have i5 : (n : Int) ≤ (c : Int) := by omega
    have i6 : (1 : Int) ≤ (m : Int) := by omega
    have i7 : (m : Int) ≤ (c : Int) := by omega
    have i8 : (0 : Int) < (n : Int) := by omega
    have i10 : ¬ c = m := by omega
    have i9 : (c : Int) ≤ 9223372036854775807 := by omega
    obtain ⟨D, hD⟩ : ∃ D, D = (k0 :: r).drop m := ⟨_, rfl⟩
    obtain ⟨F, hF⟩ : ∃ F, F = (k0 :: r).take m := ⟨_, rfl⟩
    have hgap : n - m = 4 := by omega
    rw [← hD] at HW HE
    rw [← hF] at HFR HX1 HE HX HS
    clear hm hmn hfr hct hc1' hc0 hE hX hK hD hF h hn h5 hn1 hcc hcm hc1 hc2
    go_enter Tryz.func56, Tryz.ntmps56
    go_wp2_with fail
    have hd : Below w.heap.size w w.drew := (Below.refl _ _).drew
    have HD := Lib.hid hd
    refine wp_region_held_drew (S := fun W => Below w.heap.size w W) (by kernel_rfl) hd (fun hHeld => ?_)
    clear hd
    refine wpAnyH_take (i := 0) (oi := { dst := Option.some 12, op := Op.move (Operand.tmp 0), type := 22, pos := "ref.go:53", after := #[], guard := Option.none }) (v := .slice (some ⟨bk, off, none⟩) n c) rfl (by kernel_rfl) (by kernel_rfl) (by kernel_rfl) (fun _ _ _ h => h) (Or.inl ⟨by rfl, ?_⟩) hHeld ?_
    · intro W hSw
      go_simp
    simp only [Act.put, List.setIfInBounds_toArray, List.set_cons_zero, List.set_cons_succ]
    refine wpAnyH_take (i := 1) (oi := { dst := Option.some 13, op := Op.move (Operand.tmp 5), type := 3, pos := "ref.go:53", after := #[], guard := Option.none }) (v := .int .i64 (m : Int)) rfl (by kernel_rfl) (by kernel_rfl) (by kernel_rfl) (fun _ _ _ h => h) (Or.inl ⟨by rfl, ?_⟩) hHeld ?_
    · intro W hSw
      go_simp
    simp only [Act.put, List.setIfInBounds_toArray, List.set_cons_zero, List.set_cons_succ]
    refine wpAnyH_take (i := 2) (oi := { dst := Option.some 14, op := Op.slice 22 (Operand.tmp 12) Option.none (Option.some (Operand.tmp 13)) Option.none, type := 22, pos := "ref.go:53", after := #[{ on := 0, ground := Ground.data }, { on := 1, ground := Ground.data }], guard := Option.none }) (v := .slice (some ⟨bk, off, none⟩) m c) rfl (by kernel_rfl) (by kernel_rfl) (by kernel_rfl) (fun _ _ _ h => h) (Or.inl ⟨by rfl, ?_⟩) hHeld ?_
    · intro W hSw
      go_simp
    simp only [Act.put, List.setIfInBounds_toArray, List.set_cons_zero, List.set_cons_succ]
    refine wpAnyH_take (i := 6) (oi := { dst := Option.some 18, op := Op.move (Operand.tmp 0), type := 22, pos := "ref.go:53", after := #[], guard := Option.none }) (v := .slice (some ⟨bk, off, none⟩) n c) rfl (by kernel_rfl) (by kernel_rfl) (by kernel_rfl) (fun _ _ _ h => h) (Or.inl ⟨by rfl, ?_⟩) hHeld ?_
    · intro W hSw
      go_simp
    simp only [Act.put, List.setIfInBounds_toArray, List.set_cons_zero, List.set_cons_succ]
    refine wpAnyH_take (i := 7) (oi := { dst := Option.some 19, op := Op.move (Operand.tmp 5), type := 3, pos := "ref.go:53", after := #[], guard := Option.none }) (v := .int .i64 (m : Int)) rfl (by kernel_rfl) (by kernel_rfl) (by kernel_rfl) (fun _ _ _ h => h) (Or.inl ⟨by rfl, ?_⟩) hHeld ?_
    · intro W hSw
      go_simp
    simp only [Act.put, List.setIfInBounds_toArray, List.set_cons_zero, List.set_cons_succ]
    refine wpAnyH_take (i := 8) (oi := { dst := Option.some 20, op := Op.slice 22 (Operand.tmp 18) (Option.some (Operand.tmp 19)) Option.none Option.none, type := 22, pos := "ref.go:53", after := #[{ on := 6, ground := Ground.data }, { on := 7, ground := Ground.data }], guard := Option.none }) (v := .slice (some ⟨bk, off + m, none⟩) 4 (c - m)) rfl (by kernel_rfl) (by kernel_rfl) (by kernel_rfl) (fun _ _ _ h => h) (Or.inl ⟨by rfl, ?_⟩) hHeld ?_
    · intro W hSw
      go_simp
    simp only [Act.put, List.setIfInBounds_toArray, List.set_cons_zero, List.set_cons_succ]
    refine wpAnyH_take (i := 9) (oi := { dst := Option.some 21, op := Op.convert 22 9 (Operand.tmp 20), type := 9, pos := "ref.go:53", after := #[{ on := 8, ground := Ground.data }], guard := Option.none }) (v := .string ⟨D.toArray⟩) rfl (by kernel_rfl) (by kernel_rfl) (by kernel_rfl) (fun _ _ _ h => h) (Or.inl ⟨by rfl, ?_⟩) hHeld ?_
    · intro W hSw
      have hcW := HW.out W hSw
      go_simp
    simp only [Act.put, List.setIfInBounds_toArray, List.set_cons_zero, List.set_cons_succ]
    refine wpAnyH_ready (rs := [3]) (by kernel_rfl) (by simp) ?_
    refine AllReadyH.cons (o := { dst := Option.some 15, op := Op.call { callee := Callee.value (Operand.func 54), args := #[Operand.tmp 14], argTypes := #[22] }, type := 92, pos := "ref.go:53", after := #[{ on := 2, ground := Ground.data }], guard := Option.none }) rfl (fun K hK => ?_) AllReadyH.nil
    go_simp
    refine (RefSum_any (some ⟨bk, off, none⟩) m c F _ B (by show B ≤ w.heap.size; exact hB) (HFR.out.below (HD.out.mono hB))).mono ?_
    rintro y w4 ⟨rfl, hb4⟩
    have hbw4 : Below w.heap.size w w4 := HD.out.trans (hb4.mono HD.out.size)
    have HB4 := Lib.hid hbw4
    clear hb4 hHeld
    refine hK.out _ _ hbw4 (fun hHeld => ?_)
    clear hK K hbw4
    refine wpAnyH_ready (rs := [4]) (by kernel_rfl) (by simp) ?_
    refine AllReadyH.cons (o := { dst := Option.some 16, op := Op.call { callee := Callee.value (Operand.func 53), args := #[Operand.tmp 15], argTypes := #[92] }, type := 22, pos := "ref.go:53", after := #[{ on := 3, ground := Ground.data }, { on := 3, ground := Ground.chain }], guard := Option.none }) rfl (fun K hK => ?_) AllReadyH.nil
    go_simp
    refine (RefTail_any _ HS.out _).mono ?_
    rintro y w5 ⟨a5, rfl, h5, hb5⟩
    have hcf := conv_bytes h5
    have hbw5 : Below w.heap.size w w5 := HB4.out.trans (hb5.mono HB4.out.size)
    have HB5 := Lib.hid hbw5
    clear hb5 h5 hHeld
    refine hK.out _ _ hbw5 (fun hHeld => ?_)
    clear hK K hbw5
    generalize hT : tail4 (sum F) = T at hcf HE
    refine wpAnyH_ready (rs := [5]) (by kernel_rfl) (by simp) ?_
    refine AllReadyH.cons (o := { dst := Option.some 17, op := Op.convert 22 9 (Operand.tmp 16), type := 9, pos := "ref.go:53", after := #[{ on := 4, ground := Ground.data }], guard := Option.none }) rfl (fun K hK => ?_) AllReadyH.nil
    go_simp
    refine hK.out _ _ hHeld (fun hHeld => ?_)
    clear hK K
    have q5 : w5.cell? ⟨bk, off, none⟩ = some (.int .u8 (k0.toNat : Int)) := (HB5.out.cell (p := ⟨bk, off, none⟩) (by show bk < w.heap.size; omega)).trans HC0.out
    have HX5 := Lib.hid (HX1.out.below (HB5.out.mono hB))
    by_cases hTD : T = D
    · have hE2 := HE.out
      rw [if_neg (by rw [hTD]; simp)] at hE2
      have HE2 := Lib.hid hE2
      subst hTD
      clear hE2 HE hT
      refine wpAnyH_take (i := 10) (oi := { dst := Option.some 22, op := Op.binOp BinOp.neq 9 (Operand.tmp 17) (Operand.tmp 21) 9, type := 4, pos := "ref.go:53", after := #[{ on := 5, ground := Ground.data }, { on := 9, ground := Ground.data }], guard := Option.none }) (v := .bool false) rfl (by kernel_rfl) (by kernel_rfl) (by kernel_rfl) (fun _ _ _ h => h) (Or.inl ⟨by rfl, ?_⟩) hHeld ?_
      · intro W hSw
        go_simp
      simp only [Act.put, List.setIfInBounds_toArray, List.set_cons_zero, List.set_cons_succ]
      refine wpAnyH_done (by kernel_rfl) ?_ _
      by_cases hk0 : k0 = 0
      · have hk0I : (k0.toNat : Int) = 0 := by rw [hk0]; rfl
        have he : openE (k0 :: r) = 1 := by rw [HE2.out, if_pos hk0]
        have hkk : openK (k0 :: r) = 0 := by rw [HKK.out, he]; rfl
        have hx : openX (k0 :: r) = [] := by rw [HX.out, he]; rfl
        have HR := Lib.hid (And.intro he (And.intro hkk hx))
        rw [hk0I] at q5
        clear hk0 hk0I he hkk hx HE2 HKK HX
        go_wp2_with fail
        go_ret3
        rw [HR.out.1, HR.out.2.1, HR.out.2.2]
        exact ⟨_, rfl, Sl.nil_ _ _, HB5.out⟩
      · have hk00 : ¬ k0.toNat = 0 := fun e => hk0 (UInt8.toNat_inj.1 (by rw [e]; rfl))
        have hk0I : ¬ (k0.toNat : Int) = 0 := by omega
        have hk0B : ((k0.toNat : Int) == 0) = false := by rw [beq_eq_false_iff_ne]; exact hk0I
        by_cases hl : 1048577 < m
        · have he : openE (k0 :: r) = 2 := by rw [HE2.out, if_neg hk0, if_pos hl]
          have hkk : openK (k0 :: r) = 0 := by rw [HKK.out, he]; rfl
          have hx : openX (k0 :: r) = [] := by rw [HX.out, he]; rfl
          have HR := Lib.hid (And.intro he (And.intro hkk hx))
          have j1 : (1048577 : Int) < (m : Int) := by omega
          generalize (k0.toNat : Int) = kI at q5 hk0I hk0B
          clear hk0 he hkk hx HE2 HKK HX hk00 hl
          go_wp2_with fail
          go_ret3
          rw [HR.out.1, HR.out.2.1, HR.out.2.2]
          exact ⟨_, rfl, Sl.nil_ _ _, HB5.out⟩
        · have he : openE (k0 :: r) = 0 := by rw [HE2.out, if_neg hk0, if_neg hl]
          have hkk : openK (k0 :: r) = k0 := by rw [HKK.out, if_pos he]
          have hx : openX (k0 :: r) = F.drop 1 := by rw [HX.out, if_pos he]
          have HR := Lib.hid (And.intro he (And.intro hkk hx))
          have j1 : ¬ (1048577 : Int) < (m : Int) := by omega
          clear hk0 he hkk hx HE2 HKK HX hk00 hl
          go_wp2_with fail
          go_region
          all_goals go_wp2_with fail
          go_ret3
          rw [HR.out.1, HR.out.2.1, HR.out.2.2]
          exact ⟨_, rfl, HX5.out.below (Below.refl _ _).drew, HB5.out.drew⟩
    · have hE2 := HE.out
      rw [if_pos hTD] at hE2
      have hkk : openK (k0 :: r) = 0 := by rw [HKK.out, hE2]; rfl
      have hx : openX (k0 :: r) = [] := by rw [HX.out, hE2]; rfl
      have HR := Lib.hid (And.intro hE2 (And.intro hkk hx))
      clear hE2 HE hT hkk hx HKK HX
      refine wpAnyH_take (i := 10) (oi := { dst := Option.some 22, op := Op.binOp BinOp.neq 9 (Operand.tmp 17) (Operand.tmp 21) 9, type := 4, pos := "ref.go:53", after := #[{ on := 5, ground := Ground.data }, { on := 9, ground := Ground.data }], guard := Option.none }) (v := .bool true) rfl (by kernel_rfl) (by kernel_rfl) (by kernel_rfl) (fun _ _ _ h => h) (Or.inl ⟨by rfl, ?_⟩) hHeld ?_
      · intro W hSw
        go_simp
      simp only [Act.put, List.setIfInBounds_toArray, List.set_cons_zero, List.set_cons_succ]
      refine wpAnyH_done (by kernel_rfl) ?_ _
      go_wp2_with fail
      go_ret3
      rw [HR.out.1, HR.out.2.1, HR.out.2.2]
      exact ⟨_, rfl, Sl.nil_ _ _, HB5.out⟩

end Go.Proofs.YtfblgkcipnkhaaaGreatDoor.pk

/-
  The document's own Open of a frame.
-/
namespace Go.Proofs.YtfblgkcipnkhaaaGreatDoor.pk
open Go Go.RowKit
set_option maxRecDepth 100000

set_option maxHeartbeats 8000000 in
theorem RefOpenM_s (A : Option Addr) (n c : Nat) (b : List UInt8) (w : World) (h : Bys w (.slice A n c) b) (m : Ms) (k : Nat) (hr : (m, k) = openM b) (nd ne : Nat) (hnd : nd = m.data.length) (hne : ne = m.ents.length) :
    Calls Tryz.prog 21 #[.slice A n c] w fun y w' => ∃ Ad cd Ae ce, y = .returned (.tuple #[.agg #[.int .i64 m.kind, .int .i64 m.frm, .int .i64 m.to, .int .i64 m.term, .int .i64 m.index, .int .i64 m.logTerm, .int .i64 m.commit, .int .i64 m.round, .bool m.ok, .int .i64 m.off, .slice Ad nd cd, .slice Ae ne ce], .int .i64 (k : Int)]) ∧ InM m Ad nd cd Ae ne ce w' ∧ Below w.heap.size w w' := by
  obtain ⟨W0, g, hW0, hg, hb0, hz0, hsz⟩ := one_box w (.cells #[.int .i64 0, .int .i64 0, .int .i64 0, .int .i64 0, .int .i64 0, .int .i64 0, .int .i64 0, .int .i64 0, .bool false, .int .i64 0, .slice none 0 0, .slice none 0 0] 25)
  have hz : M12 W0 g (.int .i64 0) (.int .i64 0) (.int .i64 0) (.int .i64 0) (.int .i64 0) (.int .i64 0) (.int .i64 0) (.int .i64 0) (.bool false) (.int .i64 0) (.slice none 0 0) (.slice none 0 0) := hz0
  have HW := Lib.hid (And.intro hW0 hg)
  have HZ := Lib.hid (And.intro hz (And.intro hb0 (show W0.heap.size = g + 1 by omega)))
  have HF := Lib.hid fun W (hW : Below W0.heap.size W0 W) => (show M12 W g (.int .i64 0) (.int .i64 0) (.int .i64 0) (.int .i64 0) (.int .i64 0) (.int .i64 0) (.int .i64 0) (.int .i64 0) (.bool false) (.int .i64 0) (.slice none 0 0) (.slice none 0 0) from hz.below hW)
  have CO := Lib.hid (RefOpenB_any A n c b W0 w.heap.size hb0.size (h.sl_.below hb0))
  have CD := Lib.hid fun (hd : (m, k) = decM (openX b)) A2 n2 c2 W (hB : w.heap.size ≤ W.heap.size) (hS : Sl W w.heap.size (.slice A2 n2 c2) (openX b)) => RefDecM_s A2 n2 c2 (openX b) W w.heap.size hB hS m k hd nd ne hnd hne
  clear hz0 hW0 hg hb0 hz hsz
  have HN := Lib.hid (And.intro hnd hne)
  unfold openM at hr
  obtain ⟨e, he⟩ : ∃ e, e = openE b := ⟨_, rfl⟩
  obtain ⟨kk, hkk⟩ : ∃ kk, kk = (openK b).toNat := ⟨_, rfl⟩
  rw [← he, ← hkk] at CO
  by_cases h1 : e = 0 ∧ kk = 109
  · have hk : openK b = 109 := by apply UInt8.toNat_inj.1; rw [← hkk, h1.2]; rfl
    rw [if_pos ⟨he ▸ h1.1, hk⟩] at hr
    have HR := Lib.hid hr
    obtain ⟨rfl, rfl⟩ := h1
    have e00 : ((0 : Nat) : Int) = 0 := rfl
    have e109 : ((109 : Nat) : Int) = 109 := rfl
    rw [e00, e109] at CO
    clear hr he hkk hk h hnd hne
    go_enter Tryz.func21, Tryz.ntmps21
    go_upto_region 1 with fail
    rw [← HW.out.1]
    try rw [← HW.out.2]
    go_wp2_with (first
      | (go_at_call 56; go_must (refine CO.out.mono ?_; rintro y w1 ⟨v, rfl, hS, hb⟩; obtain ⟨A2, c2, hv, hx1, hx2, hx3⟩ := id hS; subst hv; have T := HF.out w1 hb; obtain ⟨z0, z1, z2, z3, z4, z5, z6, z7, z8, z9, z10, z11⟩ := cells12 T; have f0 := frozen_own T 0; have f1 := frozen_own T 1; have f2 := frozen_own T 2; have f3 := frozen_own T 3; have f4 := frozen_own T 4; have f5 := frozen_own T 5; have f6 := frozen_own T 6; have f7 := frozen_own T 7; have f8 := frozen_own T 8; have f9 := frozen_own T 9; have f10 := frozen_own T 10; have f11 := frozen_own T 11; have H1 := Lib.hid (And.intro hS (And.intro hb T)); clear hS hb hx1 hx2 hx3 T))
      | (go_at_call 12; go_must (refine (CD.out HR.out A2 _ c2 _ (Nat.le_trans HZ.out.2.1.size H1.out.2.1.size) H1.out.1).mono ?_; rintro y w2 ⟨Ad, cd, Ae, ce, rfl, hi, hb⟩; have T := H1.out.2.2.below hb; clear z0 z1 z2 z3 z4 z5 z6 z7 z8 z9 z10 z11 f0 f1 f2 f3 f4 f5 f6 f7 f8 f9 f10 f11; obtain ⟨z0, z1, z2, z3, z4, z5, z6, z7, z8, z9, z10, z11⟩ := cells12 T; have f0 := frozen_own T 0; have f1 := frozen_own T 1; have f2 := frozen_own T 2; have f3 := frozen_own T 3; have f4 := frozen_own T 4; have f5 := frozen_own T 5; have f6 := frozen_own T 6; have f7 := frozen_own T 7; have f8 := frozen_own T 8; have f9 := frozen_own T 9; have f10 := frozen_own T 10; have f11 := frozen_own T 11; have H2 := Lib.hid (And.intro hi (And.intro (H1.out.2.1.trans (hb.mono H1.out.2.1.size)) (And.intro T H1.out.2.1.size))); clear hi hb T)))
    obtain ⟨F, hF, hE, hbQ, hoth, hsF⟩ := put12 H2.out.2.2.1 (.int .i64 m.kind) (.int .i64 m.frm) (.int .i64 m.to) (.int .i64 m.term) (.int .i64 m.index) (.int .i64 m.logTerm) (.int .i64 m.commit) (.int .i64 m.round) (.bool m.ok) (.int .i64 m.off) (.slice Ad nd cd) (.slice Ae ne ce)
    rw [← hF]
    clear hF z0 z1 z2 z3 z4 z5 z6 z7 z8 z9 z10 z11
    obtain ⟨z0, z1, z2, z3, z4, z5, z6, z7, z8, z9, z10, z11⟩ := cells12 hE
    have hgs := HZ.out.2.2
    have hgw : w.heap.size = g := HW.out.2.symm
    have h1s := H2.out.2.2.2
    have hin := (H2.out.1.move (T' := fun q => q < F.heap.size) (w' := F) (fun q hq _ => hoth q (by rcases hq.1 with h3 | h3 <;> omega)) fun q hq => by rw [hsF]; exact hq.2).inM fun _ hq => hq
    exact bodyPost_ret (v := .tuple #[.agg #[.int .i64 m.kind, .int .i64 m.frm, .int .i64 m.to, .int .i64 m.term, .int .i64 m.index, .int .i64 m.logTerm, .int .i64 m.commit, .int .i64 m.round, .bool m.ok, .int .i64 m.off, .slice Ad nd cd, .slice Ae ne ce], .int .i64 (k : Int)]) (by simp [results, Tryz.results21, go_sem, z0, z1, z2, z3, z4, z5, z6, z7, z8, z9, z10, z11]) rfl ⟨Ad, cd, Ae, ce, rfl, hin, (HZ.out.2.1.trans (H2.out.2.1.mono HZ.out.2.1.size)).trans (hbQ _ (Nat.le_of_eq hgw))⟩
  · have hz : (m, k) = (zm, 3) := by
      rw [hr, if_neg]
      rintro ⟨g1, g2⟩
      exact h1 ⟨he.trans g1, by rw [hkk, g2]; rfl⟩
    obtain ⟨rfl, rfl⟩ := Prod.mk.inj hz
    have h2 : ((e : Int) != 0) = true ∨ (e = 0 ∧ ((kk : Int) != 109) = true) := by
      by_cases h3 : e = 0
      · exact Or.inr ⟨h3, by simp; omega⟩
      · exact Or.inl (by simp; omega)
    have nd0 : nd = 0 := hnd
    have ne0 : ne = 0 := hne
    subst nd0
    subst ne0
    clear hr he hkk h hnd hne hz h1
    rcases h2 with h3 | ⟨rfl, h3⟩
    all_goals
      have e00 : ((0 : Nat) : Int) = 0 := rfl
      try rw [e00] at CO
      go_enter Tryz.func21, Tryz.ntmps21
      go_upto_region 1 with fail
      rw [← HW.out.1]
      try rw [← HW.out.2]
      go_wp2_with (go_at_call 56; go_must (refine CO.out.mono ?_; rintro y w1 ⟨v, rfl, hS, hb⟩; obtain ⟨A2, c2, hv, hx1, hx2, hx3⟩ := id hS; subst hv; have T := HF.out w1 hb; obtain ⟨z0, z1, z2, z3, z4, z5, z6, z7, z8, z9, z10, z11⟩ := cells12 T; have f0 := frozen_own T 0; have f1 := frozen_own T 1; have f2 := frozen_own T 2; have f3 := frozen_own T 3; have f4 := frozen_own T 4; have f5 := frozen_own T 5; have f6 := frozen_own T 6; have f7 := frozen_own T 7; have f8 := frozen_own T 8; have f9 := frozen_own T 9; have f10 := frozen_own T 10; have f11 := frozen_own T 11; have H1 := Lib.hid (And.intro hS (And.intro hb T)); clear hS hb hx1 hx2 hx3 T))
      obtain ⟨F, hF, hE, hbQ, hoth, hsF⟩ := put12 H1.out.2.2 (.int .i64 0) (.int .i64 0) (.int .i64 0) (.int .i64 0) (.int .i64 0) (.int .i64 0) (.int .i64 0) (.int .i64 0) (.bool false) (.int .i64 0) (.slice none 0 0) (.slice none 0 0)
      rw [← hF]
      clear hF z0 z1 z2 z3 z4 z5 z6 z7 z8 z9 z10 z11
      obtain ⟨z0, z1, z2, z3, z4, z5, z6, z7, z8, z9, z10, z11⟩ := cells12 hE
      have hgw : w.heap.size = g := HW.out.2.symm
      exact bodyPost_ret (v := .tuple #[.agg #[.int .i64 0, .int .i64 0, .int .i64 0, .int .i64 0, .int .i64 0, .int .i64 0, .int .i64 0, .int .i64 0, .bool false, .int .i64 0, .slice none 0 0, .slice none 0 0], .int .i64 3]) (by simp [results, Tryz.results21, go_sem, z0, z1, z2, z3, z4, z5, z6, z7, z8, z9, z10, z11]) rfl ⟨none, 0, none, 0, rfl, ⟨Bys.nil_ _, Ents.nil_ _, by unfold zm inI; decide⟩, (HZ.out.2.1.trans (H1.out.2.1.mono HZ.out.2.1.size)).trans (hbQ _ (Nat.le_of_eq hgw))⟩

end Go.Proofs.YtfblgkcipnkhaaaGreatDoor.pk
