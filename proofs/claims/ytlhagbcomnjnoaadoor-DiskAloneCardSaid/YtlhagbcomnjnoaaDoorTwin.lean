/-
  A disk of the program's, and the document's one in a variable of the law's, side by side.
-/
import Derived.Test.YtlhagbcomnjnoaaDoorStepD
namespace Go.Proofs.YtlhagbcomnjnoaaDoor.pk
open Go Go.RowKit
set_option maxRecDepth 100000

/-- The block of a variable that holds the document's disk. -/
def bxo (vB vL : Value) (d : Dk) : Obj := .cells #[vB, vL, .int .i64 d.armed, .bool d.off] 41 (0, 0)
theorem bx_cell {w : World} {b : Nat} {vB vL : Value} {d : Dk} (h : w.heap[b]? = some (bxo vB vL d)) :
    w.cell? ⟨b, 0, none⟩ = some vB ∧ w.cell? ⟨b, 1, none⟩ = some vL ∧ w.cell? ⟨b, 2, none⟩ = some (.int .i64 d.armed) ∧ w.cell? ⟨b, 3, none⟩ = some (.bool d.off) ∧ ∀ j, w.frozen? ⟨b, j, none⟩ = false := by
  refine ⟨?_, ?_, ?_, ?_, fun j => frozen_of_row w b j _ _ h⟩
  all_goals
    rw [cell_of_row w b _ _ _ (0, 0) h]
    rfl
theorem zero_cell {w : World} {b t : Nat} {v0 v1 v2 v3 : Value} (h : w.heap[b]? = some (.cells #[v0, v1, v2, v3] t (0, 0))) :
    w.cell? ⟨b, 0, none⟩ = some v0 ∧ w.cell? ⟨b, 1, none⟩ = some v1 ∧ w.cell? ⟨b, 2, none⟩ = some v2 ∧ w.cell? ⟨b, 3, none⟩ = some v3 ∧ ∀ j, w.frozen? ⟨b, j, none⟩ = false := by
  refine ⟨?_, ?_, ?_, ?_, fun j => frozen_of_row w b j _ _ h⟩
  all_goals
    rw [cell_of_row w b _ _ _ (0, 0) h]
    rfl
theorem bx_lt {w : World} {b : Nat} {o : Obj} (h : w.heap[b]? = some o) : b < w.heap.size := by
  rcases Nat.lt_or_ge b w.heap.size with hlt | hge
  · exact hlt
  · rw [Array.getElem?_eq_none hge] at h; cases h
/-- Written anew. -/
theorem bx_put {w : World} {b : Nat} {u0 u1 u2 u3 : Value} {t : Nat} (h : w.heap[b]? = some (.cells #[u0, u1, u2, u3] t (0, 0))) (v0 v1 v2 v3 : Value) :
    ((((w.setCell ⟨b, 0, none⟩ v0).setCell ⟨b, 1, none⟩ v1).setCell ⟨b, 2, none⟩ v2).setCell ⟨b, 3, none⟩ v3).heap[b]? = some (.cells #[v0, v1, v2, v3] t (0, 0)) := by
  simp [World.setCell, Array.getElem?_modify, h]

structure Twin (C : ConD) (w0 w : World) (S Z : Nat → Prop) (p b : Nat) (vB vL : Value) (d : Dk) : Prop where
  live : Live C w0 w S p d
  rd : RD w (Av w (fun k => S k ∨ Z k)) vB vL d
  box : w.heap[b]? = some (bxo vB vL d)
  zb : Z b
  zl : ∀ k, Z k → w0.heap.size ≤ k
  zu : ∀ k, Z k → k < w.heap.size
  sz : ∀ k, S k → ¬ Z k

theorem Twin.more {C : ConD} {w0 w w' : World} {S Z : Nat → Prop} {p b : Nat} {vB vL : Value} {d : Dk} (h : Twin C w0 w S Z p b vB vL d) (hb : Below w.heap.size w w') : Twin C w0 w' S Z p b vB vL d :=
  ⟨h.live.more hb, h.rd.turn (Turn.of_below hb), (hb.block b (bx_lt h.box)).trans h.box, h.zb, h.zl, fun k hk => Nat.lt_of_lt_of_le (h.zu k hk) hb.size, h.sz⟩
theorem Twin.av {C : ConD} {w0 w : World} {S Z : Nat → Prop} {p b : Nat} {vB vL : Value} {d : Dk} (h : Twin C w0 w S Z p b vB vL d) (k : Nat) (hk : k < w0.heap.size) : Av w (fun k => S k ∨ Z k) k :=
  ⟨Nat.lt_of_lt_of_le hk h.live.size, fun hs => by rcases hs with hs | hs; exact (by have := h.live.low k hs; omega); exact (by have := h.zl k hs; omega)⟩
/-- One more block protected: one that has just been made. -/
theorem Twin.guard {C : ConD} {w0 w : World} {S Z : Nat → Prop} {p b : Nat} {vB vL : Value} {d : Dk} (h : Twin C w0 w S Z p b vB vL d) (o : Obj) : Twin C w0 (w.alloc o) S (fun k => Z k ∨ k = w.heap.size) p b vB vL d := by
  have h' := h.more ((Below.refl _ _).alloc (Nat.le_refl _) o)
  refine ⟨h'.live, ?_, h'.box, Or.inl h.zb, fun k hk => ?_, fun k hk => ?_, fun k hk hz => ?_⟩
  · refine (h.rd.kept (w' := w.alloc o) fun k _ hk => Below.heap_alloc w o k hk).mono fun k hk => ⟨by rw [World.size_alloc]; have := hk.1; omega, fun hs => ?_⟩
    rcases hs with hs | hs | hs
    · exact hk.2 (Or.inl hs)
    · exact hk.2 (Or.inr hs)
    · have := hk.1; omega
  · rcases hk with hk | hk
    · exact h.zl k hk
    · have := h.live.size; omega
  · rw [World.size_alloc]
    rcases hk with hk | hk
    · have := h.zu k hk; omega
    · omega
  · rcases hz with hz | hz
    · exact h.sz k hk hz
    · have := C.foot h.live.dk k hk; omega

/-- Behind a step: the disk has gone on; the variable still holds the old one. -/
structure Next (C : ConD) (w0 w : World) (S Z : Nat → Prop) (p b : Nat) (vB vL : Value) (d : Dk) (vB' vL' : Value) (d' : Dk) : Prop where
  live : Live C w0 w S p d'
  rd : RD w (Av w (fun k => S k ∨ Z k)) vB' vL' d'
  box : w.heap[b]? = some (bxo vB vL d)
  zb : Z b
  zl : ∀ k, Z k → w0.heap.size ≤ k
  zu : ∀ k, Z k → k < w.heap.size
  sz : ∀ k, S k → ¬ Z k

theorem Next.more {C : ConD} {w0 w w' : World} {S Z : Nat → Prop} {p b : Nat} {vB vL vB' vL' : Value} {d d' : Dk} (h : Next C w0 w S Z p b vB vL d vB' vL' d') (hb : Below w.heap.size w w') : Next C w0 w' S Z p b vB vL d vB' vL' d' :=
  ⟨h.live.more hb, h.rd.turn (Turn.of_below hb), (hb.block b (bx_lt h.box)).trans h.box, h.zb, h.zl, fun k hk => Nat.lt_of_lt_of_le (h.zu k hk) hb.size, h.sz⟩
theorem Next.guard {C : ConD} {w0 w : World} {S Z : Nat → Prop} {p b : Nat} {vB vL vB' vL' : Value} {d d' : Dk} (h : Next C w0 w S Z p b vB vL d vB' vL' d') (o : Obj) : Next C w0 (w.alloc o) S (fun k => Z k ∨ k = w.heap.size) p b vB vL d vB' vL' d' := by
  have h' := h.more ((Below.refl _ _).alloc (Nat.le_refl _) o)
  refine ⟨h'.live, ?_, h'.box, Or.inl h.zb, fun k hk => ?_, fun k hk => ?_, fun k hk hz => ?_⟩
  · refine (h.rd.kept (w' := w.alloc o) fun k _ hk => Below.heap_alloc w o k hk).mono fun k hk => ⟨by rw [World.size_alloc]; have := hk.1; omega, fun hs => ?_⟩
    rcases hs with hs | hs | hs
    · exact hk.2 (Or.inl hs)
    · exact hk.2 (Or.inr hs)
    · have := hk.1; omega
  · rcases hk with hk | hk
    · exact h.zl k hk
    · have := h.live.size; omega
  · rw [World.size_alloc]
    rcases hk with hk | hk
    · have := h.zu k hk; omega
    · omega
  · rcases hz with hz | hz
    · exact h.sz k hk hz
    · have := C.foot h.live.dk k hk; omega
/-- A write into a protected block that is not the variable's. -/
theorem Next.set4 {C : ConD} {w0 w : World} {S Z : Nat → Prop} {p b : Nat} {vB vL vB' vL' : Value} {d d' : Dk} (h : Next C w0 w S Z p b vB vL d vB' vL' d') {q : Nat} (hq : Z q) (hqb : q ≠ b) (v0 v1 v2 v3 : Value) :
    Next C w0 ((((w.setCell ⟨q, 0, none⟩ v0).setCell ⟨q, 1, none⟩ v1).setCell ⟨q, 2, none⟩ v2).setCell ⟨q, 3, none⟩ v3) S Z p b vB vL d vB' vL' d' := by
  have hk := set4_block w q v0 v1 v2 v3
  have hb : Below w0.heap.size w0 ((((w.setCell ⟨q, 0, none⟩ v0).setCell ⟨q, 1, none⟩ v1).setCell ⟨q, 2, none⟩ v2).setCell ⟨q, 3, none⟩ v3) := set4_below h.live.below (h.zl q hq) _ _ _ _
  have hs : ((((w.setCell ⟨q, 0, none⟩ v0).setCell ⟨q, 1, none⟩ v1).setCell ⟨q, 2, none⟩ v2).setCell ⟨q, 3, none⟩ v3).heap.size = w.heap.size := by simp [World.setCell]
  refine ⟨⟨C.frame h.live.dk fun k hk' => hk k (fun e => h.sz k hk' (by rw [e]; exact hq)), h.live.low, hb⟩, ?_, (hk b (fun e => hqb e.symm)).trans h.box, h.zb, h.zl, fun k hk' => by rw [hs]; exact h.zu k hk', h.sz⟩
  exact (h.rd.kept fun k hk' _ => hk k (fun e => hk'.2 (Or.inr (by rw [e]; exact hq)))).mono fun k hk' => ⟨by rw [hs]; exact hk'.1, hk'.2⟩
/-- The variable is set. -/
theorem Next.put {C : ConD} {w0 w : World} {S Z : Nat → Prop} {p b : Nat} {vB vL vB' vL' : Value} {d d' : Dk} (h : Next C w0 w S Z p b vB vL d vB' vL' d') :
    Twin C w0 ((((w.setCell ⟨b, 0, none⟩ vB').setCell ⟨b, 1, none⟩ vL').setCell ⟨b, 2, none⟩ (.int .i64 d'.armed)).setCell ⟨b, 3, none⟩ (.bool d'.off)) S Z p b vB' vL' d' := by
  have hk := set4_block w b vB' vL' (.int .i64 d'.armed) (.bool d'.off)
  have hb : Below w0.heap.size w0 ((((w.setCell ⟨b, 0, none⟩ vB').setCell ⟨b, 1, none⟩ vL').setCell ⟨b, 2, none⟩ (.int .i64 d'.armed)).setCell ⟨b, 3, none⟩ (.bool d'.off)) := set4_below h.live.below (h.zl b h.zb) _ _ _ _
  have hs : ((((w.setCell ⟨b, 0, none⟩ vB').setCell ⟨b, 1, none⟩ vL').setCell ⟨b, 2, none⟩ (.int .i64 d'.armed)).setCell ⟨b, 3, none⟩ (.bool d'.off)).heap.size = w.heap.size := by simp [World.setCell]
  refine ⟨⟨C.frame h.live.dk fun k hk' => hk k (fun e => h.sz k hk' (by rw [e]; exact h.zb)), h.live.low, hb⟩, ?_, bx_put h.box _ _ _ _, h.zb, h.zl, fun k hk' => by rw [hs]; exact h.zu k hk', h.sz⟩
  exact (h.rd.kept fun k hk' _ => hk k (fun e => hk'.2 (Or.inr (by rw [e]; exact h.zb)))).mono fun k hk' => ⟨by rw [hs]; exact hk'.1, hk'.2⟩
/-- Fewer blocks protected. -/
theorem Twin.fewer {C : ConD} {w0 w : World} {S Z Z' : Nat → Prop} {p b : Nat} {vB vL : Value} {d : Dk} (h : Twin C w0 w S Z p b vB vL d) (hz : ∀ k, Z' k → Z k) (hb : Z' b) : Twin C w0 w S Z' p b vB vL d :=
  ⟨h.live, h.rd.mono fun k hk => ⟨hk.1, fun hs => hk.2 (hs.imp id (hz k))⟩, h.box, hb, fun k hk => h.zl k (hz k hk), fun k hk => h.zu k (hz k hk), fun k hk hk' => h.sz k hk (hz k hk')⟩

theorem RefNew_agg (n : Nat) (N : Int) (hN : N = n) (w : World) (h1 : 1 ≤ n) (h2 : n ≤ 4194304) :
    Calls Tryd.prog 18 #[.int .i64 N] w fun x w' => ∃ A5 n5 c5, x = .returned (.tuple #[.agg #[.slice A5 n5 c5, .slice none 0 0, .int .i64 (-1), .bool false], .int .i64 0]) ∧ RD w' (fun k => w.heap.size ≤ k ∧ k < w'.heap.size) (.slice A5 n5 c5) (.slice none 0 0) (newD n) ∧ Below w.heap.size w w' :=
  (RefNew_ok n N hN w h1 h2).mono fun _ _ ⟨vB, hx, hr, hb⟩ => by
    obtain ⟨A5, n5, c5, rfl⟩ := hr.b.form
    exact ⟨A5, n5, c5, hx, hr, hb⟩
/-- Both, at first. -/
theorem twin_new {C : ConD} {w0 w1 w2 : World} {S : Nat → Prop} {p : Nat} {n : Nat} {vB vL : Value} (hl : Live C w0 w1 S p (newD n)) (hr : RD w2 (fun k => w1.heap.size ≤ k ∧ k < w2.heap.size) vB vL (newD n)) (hb : Below w1.heap.size w1 w2) :
    Twin C w0 (w2.alloc (.cells #[vB, vL, .int .i64 (-1), .bool false] 41)) S (fun k => k = w2.heap.size) p w2.heap.size vB vL (newD n) := by
  have hS : ∀ k, S k → k < w1.heap.size := C.foot hl.dk
  have hl2 := hl.more hb
  refine ⟨hl2.alloc _, ?_, heap_alloc_new w2 _, rfl, fun k hk => by have := hl2.size; omega, fun k hk => by rw [World.size_alloc]; omega, fun k hk hz => by have := hS k hk; have := hb.size; omega⟩
  refine (hr.kept (w' := w2.alloc (.cells #[vB, vL, .int .i64 (-1), .bool false] 41)) fun k _ hk => Below.heap_alloc w2 _ k hk).mono fun k hk => ⟨by rw [World.size_alloc]; omega, fun hs => ?_⟩
  rcases hs with hs | hs
  · have := hS k hs; omega
  · omega

/-- The step, of both. -/
theorem twin_step (C : ConD) (E : ConE C) {w0 w : World} {S Z : Nat → Prop} {p b : Nat} {vB vL : Value} {d : Dk} (h : Twin C w0 w S Z p b vB vL d) (hs : Std w0) (a : Ac) (Ad Ak : Option Addr) (nd cd nk ck : Nat) (hok : a.ok)
    (hd : SlT w0 (fun k => k < w0.heap.size) (.slice Ad nd cd) a.data) (hk : IntsT w0 (fun k => k < w0.heap.size) (.slice Ak nk ck) a.keep) (hfew : d.L.length < 99990) :
    Calls Tryd.prog 19 #[.pointer (some ⟨p, 0, none⟩), .agg #[vB, vL, .int .i64 d.armed, .bool d.off], .agg #[.int .i64 a.kind, .int .i64 a.at_, .int .i64 a.n, .slice Ad nd cd, .slice Ak nk ck]] w fun x w' =>
      ∃ S' A5 n5 c5 A6 n6 c6, x = .returned (.tuple #[.agg #[.slice A5 n5 c5, .slice A6 n6 c6, .int .i64 (actD d a).armed, .bool (actD d a).off], .bool true]) ∧ Next C w0 w' S' Z p b vB vL d (.slice A5 n5 c5) (.slice A6 n6 c6) (actD d a) ∧ Turn S S' w w' := by
  refine (step_any C E w0 w S Z p vB vL d a Ad Ak nd cd nk ck hs h.live h.rd hok h.zu ((hd.kept fun k hk _ => h.live.below.block k hk).mono fun k hk => h.av k hk) ((RowT.kept hk fun k hk _ => h.live.below.block k hk).mono fun k hk => h.av k hk) hfew).mono ?_
  rintro x w' ⟨S', vB', vL', rfl, hl, hr, ht⟩
  obtain ⟨A5, n5, c5, rfl⟩ := hr.b.form
  obtain ⟨A6, c6, rfl, _, _⟩ := hr.l.form
  refine ⟨S', A5, n5, c5, A6, _, c6, rfl, ⟨hl, hr, (ht.kept.block b (bx_lt h.box) (fun hS => h.sz b hS h.zb)).trans h.box, h.zb, h.zl, fun k hk => Nat.lt_of_lt_of_le (h.zu k hk) ht.kept.size, fun k hk hz => ?_⟩, ht⟩
  rcases ht.new k hk with h1 | h1
  · exact h.sz k h1 hz
  · have := h.zu k hz; omega

end Go.Proofs.YtlhagbcomnjnoaaDoor.pk
