/-
  The program's own Clone: walked.
-/
import Derived.Test.YtlhagbcomnjnoaaDoorMineD
namespace Go.Proofs.YtlhagbcomnjnoaaDoor.pk
open Go Go.RowKit
set_option maxRecDepth 100000

theorem own_some {w : World} {b e k : Nat} {v : Value} {xs : List Value} (h : w.ownsRow b e 1 v k xs) (hk : 1 ≤ k) : ∃ g c, v = .slice (some ⟨g, 0, none⟩) k c ∧ b ≤ g := by
  rcases h.2 with ⟨_, h0⟩ | ⟨g, cap, cur, hv, hb, _⟩
  · omega
  · exact ⟨g, cap, hv, hb⟩
theorem own_base {w : World} {b b' e z k : Nat} {v : Value} {xs : List Value} (h : w.ownsRow b e z v k xs) (hb : b' ≤ b) : w.ownsRow b' e z v k xs := by
  refine ⟨h.1, ?_⟩
  rcases h.2 with hn | ⟨g, cap, cur, rfl, h1, rest⟩
  · exact Or.inl hn
  · exact Or.inr ⟨g, cap, cur, rfl, Nat.le_trans hb h1, rest⟩
theorem own_under {w w' : World} {b e z k B : Nat} {v : Value} {xs : List Value} (h : w.ownsRow b e z v k xs) (hb : Below B w w') (hl : ∀ g, v.ownBlock = some g → g < B) : w'.ownsRow b e z v k xs := own_block h fun g hg => hb.block g (hl g hg)
theorem own_set {w : World} {b e z k q j : Nat} {v u : Value} {xs : List Value} (h : w.ownsRow b e z v k xs) (hl : ∀ g, v.ownBlock = some g → g ≠ q) : (w.setCell ⟨q, j, none⟩ u).ownsRow b e z v k xs := own_block h fun g hg => by
  simp [World.setCell, Array.getElem?_modify, Ne.symm (hl g hg)]
theorem elems_one {w : World} {T : Nat → Prop} {L : List (Nat × List UInt8)} {cs : List Value} (h : Elems w T L cs) (hl : cs.length = L.length * 2) : ∀ u ∈ cs, u.oneCell' = true := by
  intro u hu
  obtain ⟨i, hi, rfl⟩ := List.mem_iff_getElem.1 hu
  obtain ⟨h1, x, h2, A, c, hv, _⟩ := h (i / 2) (by omega)
  by_cases he : i % 2 = 0
  · have e : 2 * (i / 2) = i := by omega
    rw [e, List.getElem?_eq_getElem hi] at h1
    injection h1 with h1
    rw [h1]; rfl
  · have e : 2 * (i / 2) + 1 = i := by omega
    rw [e, List.getElem?_eq_getElem hi, hv] at h2
    injection h2 with h2
    rw [h2]; rfl

theorem own_eq {g1 g a b : Nat} (e : (Value.slice (some ⟨g1, 0, none⟩) a b).ownBlock = some g) : g1 = g := by injection e

set_option maxHeartbeats 2000000 in
theorem Clone_any {R : Nat → Prop} {wR w : World} {S : Nat → Prop} {p : Nat} {d : Dk} (h : DKr R wR w S p d) (hl : d.L.length < 100000) :
    Calls Tryd.prog 15 #[.pointer (some ⟨p, 0, none⟩)] w fun x w' => ∃ q S' R', x = .returned (.pointer (some ⟨q, 0, none⟩)) ∧ DKr R' w' w' S p d ∧ DKr R' w' w' S' q d ∧ (∀ k, S k → S' k → R' k) ∧ (∀ k, S' k → S k ∨ w.heap.size ≤ k) ∧ Below w.heap.size w w' := by
  obtain ⟨gn, gs, nc, sc, vw, cs, ar, ah, hr, hp, ⟨hok, hb1, hb2⟩, ha⟩ := h
  obtain ⟨Aw, cw, rfl, -, -⟩ := own_form hr.rows
  obtain ⟨m, hm⟩ : ∃ m, m = d.L.length := ⟨_, rfl⟩
  obtain ⟨n, hn⟩ : ∃ n, n = d.B.length := ⟨_, rfl⟩
  obtain ⟨hnl, hsl⟩ := hr.nlen
  have hone := elems_one hr.elems hr.rows.1
  have hpl := hr.foot p hr.sp
  have hgn := hr.foot gn hr.sn
  have hgs := hr.foot gs hr.ss
  have hgw := fun g (e : (Value.slice Aw d.L.length cw).ownBlock = some g) => hr.foot g (hr.sw g e)
  rw [← hn] at hb1 hb2 hnl hsl
  have hr' := hr
  rw [← hn] at hr'
  rw [← hm] at hr' hgw hl
  have HM := Lib.hid hm
  obtain ⟨c0, c1, c2, c3, c4, c5, cf⟩ := hr'.cells
  clear cf
  have HO := Lib.hid (And.intro hok (And.intro hb1 (And.intro hb2 (And.intro ha hn))))
  have HR := Lib.hid hr'
  have HN := Lib.hid (And.intro hnl (And.intro hsl (And.intro hgn hgs)))
  have HP := Lib.hid hpl
  have HW := Lib.hid (And.intro hgw (And.intro hone hl))
  clear hm hr hr' hp hok ha hn hnl hsl hone hgn hgs hgw hb2 hl
  go_enter Tryd.func15, Tryd.ntmps15
  go_upto_region 4 with fail
  obtain ⟨W1, hW1⟩ : ∃ W1, W1 = w.alloc (.cells #[.slice (some ⟨gn, 0, none⟩) n nc, .slice (some ⟨gs, 0, none⟩) n sc, (.slice Aw m cw), .bool d.off, .bool ar, .int .i64 ah] 60) := ⟨_, rfl⟩
  have hbx : W1.heap[w.heap.size]? = some (.cells #[.slice (some ⟨gn, 0, none⟩) n nc, .slice (some ⟨gs, 0, none⟩) n sc, (.slice Aw m cw), .bool d.off, .bool ar, .int .i64 ah] 60 (0, 0)) := by rw [hW1]; exact heap_alloc_new w _
  have hB1 : Below w.heap.size w W1 := by rw [hW1]; exact (Below.refl _ _).alloc (Nat.le_refl _) _
  have hS1 : w.heap.size < W1.heap.size := by rw [hW1, World.size_alloc]; omega
  rw [← hW1]
  obtain ⟨q, hq⟩ : ∃ q, q = w.heap.size := ⟨_, rfl⟩
  rw [← hq] at hbx hS1 ⊢
  have HQ := Lib.hid hq
  have BX1 := Lib.hid hbx
  have HB1 := Lib.hid hB1
  have HS1 := Lib.hid hS1
  have R1 := Lib.hid (HR.out.more hB1)
  clear c0 c1 c2 c3 c4 c5 hW1 hq hbx hB1 hS1
  -- the bytes as they are now
  have hnow : SlT W1 (fun k => k < W1.heap.size) (.slice (some ⟨gn, 0, none⟩) n nc) d.now := SlT.of_own (by have := R1.out.now; rw [← HN.out.1] at this ⊢; exact this) _ (fun g e => (R1.out.now.lt g e).2)
  have b1 := CloneB_any W1 _ _ _ _ _ hnow (by have := HN.out.1; have := HO.out.2.2.1; omega)
  have B1 := Lib.hid b1
  obtain ⟨c0, -, -, -, -, -, -⟩ := R1.out.cells
  clear hnow b1
  go_upto_region 5 with (go_at_call 25; go_must (refine B1.out.mono ?_; rintro y w2 ⟨v1, rfl, ho, hb⟩; have BX2 := Lib.hid ((hb.block q HS1.out).trans BX1.out); have O1 := Lib.hid ho; have HB2 := Lib.hid hb; obtain ⟨g1, n1, rfl, hg1⟩ := own_some ho hb1; have x0 : w2.cell? ⟨q, 0, none⟩ = some (.slice (some ⟨gn, 0, none⟩) n nc) := by { rw [cell_of_row w2 q _ _ _ (0, 0) BX2.out]; rfl }; have f0 : w2.frozen? ⟨q, 0, none⟩ = false := frozen_of_row w2 q 0 _ _ BX2.out; clear ho hb))
  clear c0 B1 hb1
  -- behind the first store
  have hB3 : Below w.heap.size w (w2.setCell ⟨q, 0, none⟩ (.slice (some ⟨g1, 0, none⟩) n n1)) := (HB1.out.trans (HB2.out.mono HB1.out.size)).setCell (by rw [← HQ.out]; exact Nat.le_refl q) _
  have hbx3 : (w2.setCell ⟨q, 0, none⟩ (.slice (some ⟨g1, 0, none⟩) n n1)).heap[q]? = some (.cells #[.slice (some ⟨g1, 0, none⟩) n n1, .slice (some ⟨gs, 0, none⟩) n sc, (.slice Aw m cw), .bool d.off, .bool ar, .int .i64 ah] 60 (0, 0)) := by simp [World.setCell, Array.getElem?_modify, BX2.out]
  have ho3 : (w2.setCell ⟨q, 0, none⟩ (.slice (some ⟨g1, 0, none⟩) n n1)).ownsRow W1.heap.size 5 1 (.slice (some ⟨g1, 0, none⟩) n n1) n (Lib.byteCells d.now) := own_set O1.out fun g e => by have e := own_eq e; have := HS1.out; omega
  have hs3 : W1.heap.size ≤ (w2.setCell ⟨q, 0, none⟩ (.slice (some ⟨g1, 0, none⟩) n n1)).heap.size := by simp only [World.setCell, Array.size_modify]; exact HB2.out.size
  have hg1s : g1 < (w2.setCell ⟨q, 0, none⟩ (.slice (some ⟨g1, 0, none⟩) n n1)).heap.size := (ho3.lt g1 rfl).2
  obtain ⟨W3, hW3⟩ : ∃ W3, W3 = w2.setCell ⟨q, 0, none⟩ (.slice (some ⟨g1, 0, none⟩) n n1) := ⟨_, rfl⟩
  rw [← hW3] at hB3 hbx3 ho3 hs3 hg1s ⊢
  have R3 := Lib.hid (HR.out.more hB3)
  have X3 := Lib.hid (And.intro hB3 (And.intro hbx3 (And.intro ho3 (And.intro hs3 (And.intro hg1 hg1s)))))
  clear hW3 hB3 hbx3 ho3 hs3 hg1 hg1s x0 f0 BX2 O1 HB2 R1 BX1
  have hsafe : SlT W3 (fun k => k < W3.heap.size) (.slice (some ⟨gs, 0, none⟩) n sc) d.B := SlT.of_own (by have hx : n = d.B.length := HO.out.2.2.2.2; have := R3.out.safe; rw [hx] at this ⊢; exact this) _ (fun g e => (R3.out.safe.lt g e).2)
  have b1 := CloneB_any W3 _ _ _ _ _ hsafe (by have hx : n = d.B.length := HO.out.2.2.2.2; have := HO.out.2.2.1; omega)
  have B1 := Lib.hid b1
  have hb1 := HO.out.2.1
  obtain ⟨-, c1, -, -, -, -, -⟩ := R3.out.cells
  clear hsafe b1
  go_upto_region 6 with (go_at_call 25; go_must (refine B1.out.mono ?_; rintro y w4 ⟨v2, rfl, ho, hb⟩; have BX4 := Lib.hid ((hb.block q (Nat.lt_of_lt_of_le HS1.out X3.out.2.2.2.1)).trans X3.out.2.1); have O2 := Lib.hid ho; have HB4 := Lib.hid hb; obtain ⟨g2, n2, rfl, hg2⟩ := own_some ho hb1; have x1 : w4.cell? ⟨q, 1, none⟩ = some (.slice (some ⟨gs, 0, none⟩) n sc) := by { rw [cell_of_row w4 q _ _ _ (0, 0) BX4.out]; rfl }; have f1 : w4.frozen? ⟨q, 1, none⟩ = false := frozen_of_row w4 q 1 _ _ BX4.out; clear ho hb))
  clear c1 B1 hb1
  -- behind the second one
  have hB5 : Below w.heap.size w (w4.setCell ⟨q, 1, none⟩ (.slice (some ⟨g2, 0, none⟩) n n2)) := (X3.out.1.trans (HB4.out.mono X3.out.1.size)).setCell (by rw [← HQ.out]; exact Nat.le_refl q) _
  have hbx5 : (w4.setCell ⟨q, 1, none⟩ (.slice (some ⟨g2, 0, none⟩) n n2)).heap[q]? = some (.cells #[.slice (some ⟨g1, 0, none⟩) n n1, .slice (some ⟨g2, 0, none⟩) n n2, (.slice Aw m cw), .bool d.off, .bool ar, .int .i64 ah] 60 (0, 0)) := by simp [World.setCell, Array.getElem?_modify, BX4.out]
  have ho5 : (w4.setCell ⟨q, 1, none⟩ (.slice (some ⟨g2, 0, none⟩) n n2)).ownsRow W1.heap.size 5 1 (.slice (some ⟨g1, 0, none⟩) n n1) n (Lib.byteCells d.now) := own_set (own_under X3.out.2.2.1 HB4.out fun g e => by have e := own_eq e; rw [← e]; exact X3.out.2.2.2.2.2) fun g e => by have e := own_eq e; have := HS1.out; have := X3.out.2.2.2.2.1; omega
  have hp5 : (w4.setCell ⟨q, 1, none⟩ (.slice (some ⟨g2, 0, none⟩) n n2)).ownsRow W3.heap.size 5 1 (.slice (some ⟨g2, 0, none⟩) n n2) n (Lib.byteCells d.B) := own_set O2.out fun g e => by have e := own_eq e; have := HS1.out; have := X3.out.2.2.2.1; omega
  have hs5 : W3.heap.size ≤ (w4.setCell ⟨q, 1, none⟩ (.slice (some ⟨g2, 0, none⟩) n n2)).heap.size := by simp only [World.setCell, Array.size_modify]; exact HB4.out.size
  have hg2s : g2 < (w4.setCell ⟨q, 1, none⟩ (.slice (some ⟨g2, 0, none⟩) n n2)).heap.size := (hp5.lt g2 rfl).2
  obtain ⟨W5, hW5⟩ : ∃ W5, W5 = w4.setCell ⟨q, 1, none⟩ (.slice (some ⟨g2, 0, none⟩) n n2) := ⟨_, rfl⟩
  rw [← hW5] at hB5 hbx5 ho5 hp5 hs5 hg2s ⊢
  have R5 := Lib.hid (HR.out.more hB5)
  have X5 := Lib.hid (And.intro hB5 (And.intro hbx5 (And.intro ho5 (And.intro hp5 (And.intro hs5 (And.intro hg2 hg2s))))))
  clear hW5 hB5 hbx5 ho5 hp5 hs5 hg2 hg2s x1 f1 BX4 O2 HB4 R3
  have b1 := CloneW_any W5 _ _ _ (by have := R5.out.rows; rw [← HM.out] at this; exact this) HW.out.2.1 HW.out.2.2
  have B1 := Lib.hid b1
  obtain ⟨-, -, c2, -, -, -, -⟩ := R5.out.cells
  clear b1
  go_upto_region 7 with (go_at_call 27; go_must (refine B1.out.mono ?_; rintro y w6 ⟨v3, rfl, ho, hb⟩; have BX6 := Lib.hid ((hb.block q (Nat.lt_of_lt_of_le HS1.out (Nat.le_trans X3.out.2.2.2.1 X5.out.2.2.2.2.1))).trans X5.out.2.1); have O3 := Lib.hid ho; have HB6 := Lib.hid hb; obtain ⟨A3, k3, rfl, -, -⟩ := own_form ho; have x2 : w6.cell? ⟨q, 2, none⟩ = some (.slice Aw m cw) := by { rw [cell_of_row w6 q _ _ _ (0, 0) BX6.out]; rfl }; have f2 : w6.frozen? ⟨q, 2, none⟩ = false := frozen_of_row w6 q 2 _ _ BX6.out; clear ho hb))
  clear c2 B1
  -- behind the third one
  have hB7 : Below w.heap.size w (w6.setCell ⟨q, 2, none⟩ (.slice A3 m k3)) := (X5.out.1.trans (HB6.out.mono X5.out.1.size)).setCell (by rw [← HQ.out]; exact Nat.le_refl q) _
  have hbx7 : (w6.setCell ⟨q, 2, none⟩ (.slice A3 m k3)).heap[q]? = some (.cells #[.slice (some ⟨g1, 0, none⟩) n n1, .slice (some ⟨g2, 0, none⟩) n n2, (.slice A3 m k3), .bool d.off, .bool ar, .int .i64 ah] 60 (0, 0)) := by simp [World.setCell, Array.getElem?_modify, BX6.out]
  have hq1 : q < W1.heap.size := HS1.out
  have hq3 : W1.heap.size ≤ W3.heap.size := X3.out.2.2.2.1
  have hq5 : W3.heap.size ≤ W5.heap.size := X5.out.2.2.2.2.1
  have hg1 : W1.heap.size ≤ g1 ∧ g1 < W3.heap.size := X3.out.2.2.2.2
  have hg2 : W3.heap.size ≤ g2 ∧ g2 < W5.heap.size := X5.out.2.2.2.2.2
  have hg3 := O3.out.lt
  have ho7 : (w6.setCell ⟨q, 2, none⟩ (.slice A3 m k3)).ownsRow W1.heap.size 5 1 (.slice (some ⟨g1, 0, none⟩) n n1) n (Lib.byteCells d.now) := own_set (own_under X5.out.2.2.1 HB6.out fun g e => by have e := own_eq e; omega) fun g e => by have e := own_eq e; omega
  have hp7 : (w6.setCell ⟨q, 2, none⟩ (.slice A3 m k3)).ownsRow W3.heap.size 5 1 (.slice (some ⟨g2, 0, none⟩) n n2) n (Lib.byteCells d.B) := own_set (own_under X5.out.2.2.2.1 HB6.out fun g e => by have e := own_eq e; omega) fun g e => by have e := own_eq e; omega
  have hr7 : (w6.setCell ⟨q, 2, none⟩ (.slice A3 m k3)).ownsRow W5.heap.size 63 2 (.slice A3 m k3) m cs := own_set O3.out fun g e => by have := (hg3 g e).1; omega
  have hs7 : (w6.setCell ⟨q, 2, none⟩ (.slice A3 m k3)).heap.size = w6.heap.size := by simp only [World.setCell, Array.size_modify]
  have hs6 : W5.heap.size ≤ w6.heap.size := HB6.out.size
  obtain ⟨W7, hW7⟩ : ∃ W7, W7 = w6.setCell ⟨q, 2, none⟩ (.slice A3 m k3) := ⟨_, rfl⟩
  rw [← hW7] at hB7 hbx7 ho7 hp7 hr7 hs7 ⊢
  have R7 := HR.out.more hB7
  obtain ⟨hok, hb1, hb2, ha, hn⟩ := HO.out
  have hQ := HQ.out
  have hgw := HW.out.1
  have hfoot := HR.out.foot
  have fin : ∃ S' R', DKr R' W7 W7 S p d ∧ DKr R' W7 W7 S' q d ∧ (∀ k, S k → S' k → R' k) ∧ (∀ k, S' k → S k ∨ w.heap.size ≤ k) ∧ Below w.heap.size w W7 := by
    refine ⟨fun k => Rest S p gn gs (.slice Aw m cw) k ∨ (w.heap.size ≤ k ∧ k < W7.heap.size), Rest S p gn gs (.slice Aw m cw), ?_, ?_, fun k hk hk' => ?_, fun k hk => ?_, hB7⟩
    · rw [hn] at R7
      exact ⟨gn, gs, nc, sc, _, cs, ar, ah, R7, fun k hk => ⟨hk, rfl⟩, ⟨hok, by rw [← hn]; exact ⟨hb1, hb2⟩⟩, ha⟩
    · refine ⟨g1, g2, n1, n2, .slice A3 m k3, cs, ar, ah, ?_, fun k hk => ⟨⟨Or.inl hk, ?_, ?_, ?_, ?_⟩, rfl⟩, ⟨hok, by rw [← hn]; exact ⟨hb1, hb2⟩⟩, ha⟩
      · rw [← hn]
        refine ⟨hbx7, own_base ho7 (Nat.zero_le _), own_base hp7 (Nat.zero_le _), by rw [← HM.out]; exact own_base hr7 (Nat.zero_le _), ?_, by omega, by omega, by omega, fun g e => ?_, Or.inr ⟨by omega, by omega⟩, Or.inr ⟨by omega, by omega⟩, Or.inr ⟨by omega, by omega⟩, fun g e => ?_, fun k hk => ?_⟩
        · refine R7.elems.mono fun k hk => ⟨Or.inl hk, ?_, ?_, ?_, ?_⟩
          · have := hfoot k hk.1; omega
          · have := hfoot k hk.1; omega
          · have := hfoot k hk.1; omega
          · intro e; have := hfoot k hk.1; have := (hg3 k e).1; omega
        · have := (hg3 g e).1; omega
        · have := hg3 g e; exact Or.inr ⟨by omega, by omega⟩
        · rcases hk with hk | hk
          · have := hfoot k hk.1; omega
          · exact hk.2
      · have := hfoot k hk.1; omega
      · have := hfoot k hk.1; omega
      · have := hfoot k hk.1; omega
      · intro e; have := hfoot k hk.1; have := (hg3 k e).1; omega
    · rcases hk' with hk' | hk'
      · exact hk'
      · have := hfoot k hk; omega
    · rcases hk with hk | hk
      · exact Or.inl hk.1
      · exact Or.inr hk.1
  have FIN := Lib.hid fin
  clear fin hB7 hbx7 ho7 hp7 hr7 hs7 hs6 R7 hok hb1 hb2 ha hn hQ hgw hfoot hq1 hq3 hq5 hg1 hg2 hg3 hW7 x2 f2
  go_wp2_with fail
  go_ret
  obtain ⟨S', R', h1, h2, h3, h4, h5⟩ := FIN.out
  exact ⟨q, S', R', rfl, h1, h2, h3, h4, h5⟩

end Go.Proofs.YtlhagbcomnjnoaaDoor.pk
