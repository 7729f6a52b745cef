/-
  The program's own log: Add.
-/
import Derived.Test.YtlngcfaadfkbnaaDoorHg6
namespace Go.Proofs.YtlngcfaadfkbnaaDoor.pk
open Go Go.RowKit
set_option maxRecDepth 100000

section
variable {w w' : World} {B : Nat} {Q Q' : Nat → Prop} {t : TypeId} {v : Value} {l : List En}
theorem OwnE.monoQ (h : OwnE w B Q t v l) (hq : ∀ k, Q k → k < w.heap.size → v.ownBlock ≠ some k → Q' k) : OwnE w B Q' t v l := by
  obtain ⟨cs, h1, h2⟩ := h
  refine ⟨cs, h1, fun j hj => ?_⟩
  obtain ⟨e0, e1, e2, u, e3, e4⟩ := h2 j hj
  exact ⟨e0, e1, e2, u, e3, e4.mono fun k hk => ⟨hq k hk.1 hk.2.1 hk.2.2, hk.2.1, hk.2.2⟩⟩
theorem OwnE.entsT2 (h : OwnE w B Q t v l) (T : Nat → Prop) (h1 : ∀ k, Q k → k < w.heap.size → T k) (h2 : ∀ g, v.ownBlock = some g → T g) : EntsT w T v l := by
  obtain ⟨cs, ho, he⟩ := h
  exact ⟨cs, RowT.of_own ho _ h2, fun j hj => (he j hj).move (fun _ _ _ => rfl) fun _ hk => h1 _ hk.1 hk.2.1⟩
/-- One entry more, as one operation. -/
theorem wp_pushE {o : Oper} {a : Act} {K : Act → World → Prop} {R : Exit → Act → World → Prop} (h : OwnE w B Q t v l) (s x : Operand) (ts : TypeId)
    (hts : Tryd.prog.underlying ts = some (.slice t)) (hi : (Tryd.prog.info? t).map (fun i => (i.zero, i.size, i.bytes)) = some (some (.agg #[.int .i64 0, .int .i64 0, .int .i64 0, .slice none 0 0]), 4, 48))
    (ho : o.op = .call { callee := .builtin .append, args := #[s, x], argTypes := #[ts, ts] }) (hs : a.eval s = v) (g : Nat) (e : En) (A : Option Addr) (c : Nat) (hx : a.eval x = .slice (some ⟨g, 0, none⟩) 1 1)
    (hg : w.heap[g]? = some (.cells #[.int .i64 e.index, .int .i64 e.term, .int .i64 e.kind, .slice A e.data.length c] t (0, 0))) (hy : SlT w (fun k => Q k ∧ k < w.heap.size ∧ v.ownBlock ≠ some k) (.slice A e.data.length c) e.data) (hl : l.length < 100000000) (hB : B ≤ w.heap.size)
    (hK : ∀ v' w', OwnE w' B Q t v' (l ++ [e]) → w.grownBy w' v.ownBlock → (v'.ownBlock = v.ownBlock ∨ v'.ownBlock = some w.heap.size) → K (a.put o.dst v') w') : o.wp Tryd.prog a w K R := by
  obtain ⟨i0, hi, hz0, hz1, hz2⟩ := info_parts hi
  obtain ⟨cs, hown, he⟩ := h
  obtain ⟨v', w', hrun, h2, h3, -, h4⟩ := run_append_own_at (P := Tryd.prog) w B ts o.type t i0 _ 4 48 hts hi hz0 hz1 hz2 rfl (by omega) v l.length cs hown ⟨g, 0, none⟩ 1 1 [.int .i64 e.index, .int .i64 e.term, .int .i64 e.kind, .slice A e.data.length c] rfl
    (fun j u hj => by
      rw [Lib.add_plain, Nat.zero_add, cell_of_row w g _ _ _ (0, 0) hg]
      simpa using hj) (fun u hu => by
      simp only [List.mem_cons, List.not_mem_nil, or_false] at hu
      rcases hu with rfl | rfl | rfl | rfl <;> rfl) (by simp only [maxLen]; omega) (by omega) hB
  unfold Oper.wp execOp
  simp only [ho, resolve, invoke, builtin, Sem.run_bind, Sem.run_pure, Result.andThen_ok, List.map_toArray, List.map_cons, List.map_nil, hs, hx, hrun]
  have hcl : cs.length = l.length * 4 := hown.1
  refine (hK v' w' ⟨cs ++ [.int .i64 e.index, .int .i64 e.term, .int .i64 e.kind, .slice A e.data.length c], by rw [List.length_append]; exact h2, fun j hj => ?_⟩ h3 h4)
  have hT : ∀ k, (Q k ∧ k < w.heap.size ∧ v.ownBlock ≠ some k) → (Q k ∧ k < w'.heap.size ∧ v'.ownBlock ≠ some k) := fun k hk => ⟨hk.1, Nat.lt_of_lt_of_le hk.2.1 h3.size, fun e => by
    rcases h4 with h4 | h4
    · exact hk.2.2 (h4 ▸ e)
    · rw [h4] at e; injection e with e; have := hk.2.1; omega⟩
  have hblk : ∀ k, (Q k ∧ k < w.heap.size ∧ v.ownBlock ≠ some k) → k < w.heap.size → w'.heap[k]? = w.heap[k]? := fun k hk hl => h3.block k hl (fun e => hk.2.2 e.symm)
  by_cases hj' : j < l.length
  · obtain ⟨h0, h1, h2, u, hu, hsl⟩ := he j hj'
    have hlt : j * 4 + 3 < cs.length := by omega
    rw [List.getElem_append_left hj']
    exact ⟨by rw [List.getElem?_append_left (by omega)]; exact h0, by rw [List.getElem?_append_left (by omega)]; exact h1, by rw [List.getElem?_append_left (by omega)]; exact h2, u, by rw [List.getElem?_append_left (by omega)]; exact hu, (hsl.kept hblk).mono hT⟩
  · have hjl : j = l.length := by rw [List.length_append] at hj; simp at hj; omega
    subst hjl
    rw [List.getElem_append_right (Nat.le_refl _)]
    simp only [Nat.sub_self, List.getElem_cons_zero]
    refine ⟨?_, ?_, ?_, _, ?_, (hy.kept hblk).mono hT⟩
    all_goals
      rw [List.getElem?_append_right (by omega), hcl]
      simp
end

theorem addE_cases (l : Lg) (t k : Int) (d : List UInt8) (e1 e2 : Int) (he : endE l = (e1, e2)) :
    (mayE l = false ∧ addE l t k d = (zl, 1)) ∨ (mayE l = true ∧ t < e2 ∧ addE l t k d = (zl, 1)) ∨ (mayE l = true ∧ ¬ t < e2 ∧ cntE t = false ∧ addE l t k d = (zl, 1)) ∨ (mayE l = true ∧ ¬ t < e2 ∧ cntE t = true ∧ kndE k = false ∧ addE l t k d = (zl, 1)) ∨
    (mayE l = true ∧ ¬ t < e2 ∧ cntE t = true ∧ kndE k = true ∧ cntE (e1 + 1) = false ∧ addE l t k d = (zl, 1)) ∨ (mayE l = true ∧ ¬ t < e2 ∧ cntE t = true ∧ kndE k = true ∧ cntE (e1 + 1) = true ∧ 4096 < (d.length : Int) ∧ addE l t k d = (zl, 2)) ∨
    (mayE l = true ∧ ¬ t < e2 ∧ cntE t = true ∧ kndE k = true ∧ cntE (e1 + 1) = true ∧ ¬ 4096 < (d.length : Int) ∧ (l.l.length : Int) = 4096 ∧ addE l t k d = (zl, 10)) ∨
    (mayE l = true ∧ ¬ t < e2 ∧ cntE t = true ∧ kndE k = true ∧ cntE (e1 + 1) = true ∧ ¬ 4096 < (d.length : Int) ∧ ¬ (l.l.length : Int) = 4096 ∧ addE l t k d = (⟨l.base, l.term, l.l ++ [⟨e1 + 1, t, k, d⟩]⟩, 0)) := by
  unfold addE
  rw [he]
  simp only
  cases hm : mayE l with
  | false => left; simp
  | true =>
    have hp := mayE_parts hm
    have h1 := endE_index hm
    rw [he] at h1 hp
    simp only at h1 hp
    right
    simp only [Bool.true_eq_false, false_or, true_and]
    by_cases c1 : t < e2
    · left; exact ⟨c1, if_pos (Or.inl c1)⟩
    · right
      cases c2 : cntE t with
      | false =>
        left
        have := cntE_false.1 c2
        exact ⟨c1, rfl, if_pos (by omega)⟩
      | true =>
        right
        cases c3 : kndE k with
        | false =>
          left
          have := kndE_false.1 c3
          exact ⟨c1, rfl, rfl, if_pos (by omega)⟩
        | true =>
          right
          have hc2 := cntE_true.1 c2
          have hc3 := kndE_true.1 c3
          cases c4 : cntE (e1 + 1) with
          | false =>
            left
            have := cntE_false.1 c4
            exact ⟨c1, rfl, rfl, rfl, if_pos (by omega)⟩
          | true =>
            right
            have := cntE_true.1 c4
            rw [if_neg (by omega)]
            by_cases c5 : 4096 < d.length
            · left; exact ⟨c1, rfl, rfl, rfl, by omega, if_pos c5⟩
            · right
              rw [if_neg c5]
              by_cases c6 : l.l.length = 4096
              · left; exact ⟨c1, rfl, rfl, rfl, by omega, by omega, if_pos (by omega)⟩
              · right; exact ⟨c1, rfl, rfl, rfl, by omega, by omega, if_neg (by omega)⟩

set_option maxHeartbeats 16000000 in
theorem Add_no (l : Lg) (A : Option Addr) (n c : Nat) (t k : Int) (A' : Option Addr) (n' c' : Nat) (d : List UInt8) (w : World) (h : Inp l A n c w) (hd : Bys w (.slice A' n' c') d) (hd0 : n' ≤ 1000000000) (r : Lg × Nat) (hr : r = addE l t k d) (m : Nat) (hm0 : m = r.1.l.length) (hne : r.2 ≠ 0) :
    Calls Tryd.prog 30 #[.agg #[.int .i64 l.base, .int .i64 l.term, .slice A n c], .int .i64 t, .int .i64 k, .slice A' n' c'] w fun y w' => ∃ A1 c1, y = .returned (.tuple #[.agg #[.int .i64 r.1.base, .int .i64 r.1.term, .slice A1 m c1], er r.2]) ∧ EntsT w' (fun q => w.heap.size ≤ q ∧ q < w'.heap.size) (.slice A1 m c1) r.1.l ∧ Below w.heap.size w w' := by
  obtain ⟨W1, g, g2, hW1, hg, hg2, hb1, hq, hq2, hsz⟩ := two_box w (.cells #[.int .i64 l.base, .int .i64 l.term, .slice A n c] 29) (.cells #[.int .i64 0, .int .i64 0, .slice none 0 0] 29)
  have HW := Lib.hid (And.intro hW1 (And.intro hg hg2))
  have HE := Lib.hid (And.intro hb1 (And.intro (show w.heap.size = g by omega) (And.intro (show g2 = g + 1 by omega) hsz)))
  have HI := Lib.hid (h.below hb1)
  have HQ2 := Lib.hid (show ∀ W, Below W1.heap.size W1 W → W.heap[g2]? = some (.cells #[.int .i64 0, .int .i64 0, .slice none 0 0] 29 (0, 0)) from fun W hW => (hW.block g2 (obj_lt hq2)).trans hq2)
  have HCL := Lib.hid (show ∀ W, Below W1.heap.size W1 W → W.cell? ⟨g, 0, none⟩ = some (.int .i64 l.base) ∧ W.cell? ⟨g, 1, none⟩ = some (.int .i64 l.term) ∧ W.cell? ⟨g, 2, none⟩ = some (.slice A n c) from fun W hW => cells3 ((hW.block g (obj_lt hq)).trans hq))
  obtain ⟨x0, x1, x2⟩ := cells3 hq
  have hl := h.len
  have hres : Tryd.f30.results = #[.cell 8 29, .tmp 9] := by kernel_rfl
  have hnil : ∀ W : World, EntsT W (fun q => w.heap.size ≤ q ∧ q < W.heap.size) (.slice none 0 0) [] := fun W => ⟨[], RowT.nil_ _ _ _, fun j h => by simp at h⟩
  have HNIL := Lib.hid hnil
  obtain ⟨e1, e2, hee⟩ : ∃ e1 e2, endE l = (e1, e2) := ⟨_, _, rfl⟩
  have hdl := hd.len_
  rcases addE_cases l t k d e1 e2 hee with ⟨hm, hf⟩ | ⟨hm, c1, hf⟩ | ⟨hm, c1, c2, hf⟩ | ⟨hm, c1, c2, c3, hf⟩ | ⟨hm, c1, c2, c3, c4, hf⟩ | ⟨hm, c1, c2, c3, c4, c5, hf⟩ | ⟨hm, c1, c2, c3, c4, c5, c6, hf⟩ | ⟨hm, c1, c2, c3, c4, c5, c6, hf⟩
  · have CC := Lib.hid (HI.out.bad hm)
    obtain rfl := hr.trans hf
    obtain rfl : m = 0 := hm0
    clear hne h hW1 hg hg2 hb1 hq hq2 hsz hl hnil hd hd0 hr hf hm hee hdl
    go_enter Tryd.func30, Tryd.ntmps30
    go_upto_region 1 with fail
    rw [← HW.out.1, ← HW.out.2.1, ← HW.out.2.2]
    go_wp2_with (go_at_call 17; go_must (refine CC.out.mono ?_; rintro y w1 ⟨rfl, hb1⟩; have hq2 := HQ2.out w1 hb1; obtain ⟨y0, y1, y2⟩ := cells3 hq2; have f0 := frozen_own hq2 0; have f1 := frozen_own hq2 1; have f2 := frozen_own hq2 2; have HB := Lib.hid (And.intro hq2 (HE.out.1.trans (hb1.mono HE.out.1.size))); clear hb1 hq2))
    obtain ⟨WF, hWF, z0, z1, z2, hbF, hoth, hsz2⟩ := logRes (b0 := .int .i64 0) (b1 := .int .i64 0) (b2 := .slice none 0 0) HB.out.1 HB.out.2 (show w.heap.size ≤ g2 by have := HE.out; omega)
    unfold put3 at hWF
    rw [hWF]
    have HBF := Lib.hid hbF
    clear hbF hoth hsz2 hWF x0 x1 x2 y0 y1 y2 f0 f1 f2
    refine bodyPost_ret (v := .tuple #[.agg #[.int .i64 0, .int .i64 0, .slice none 0 0], .iface 72 (.int .i64 1)]) ?_ rfl ⟨none, 0, rfl, HNIL.out _, HBF.out⟩
    simp only [results, hres]
    go_simp
  case inr.inl | inr.inr.inl | inr.inr.inr.inl | inr.inr.inr.inr.inl | inr.inr.inr.inr.inr.inl | inr.inr.inr.inr.inr.inr.inl =>
    have CC := Lib.hid (HI.out.good hm)
    have hle : lastE l = (e1, e2) := (lastE_may hm).trans hee
    have CL := Lib.hid (show ∀ W, Below W1.heap.size W1 W → _ from fun W (hW : Below W1.heap.size W1 W) => Last_g l A n c W (HI.out.below hW) (e1, e2) hle.symm)
    have hp := mayE_parts hm
    have hei := endE_index hm
    rw [hee] at hp hei
    simp only at hp hei
    have i1 : 0 ≤ e1 := by omega
    have i2 : e1 ≤ 1099511627776 := by omega
    have C0 := Lib.hid fun n W => counts_any n W _ rfl
    have C2 := Lib.hid fun n W => isKind_any n W _ rfl
    obtain rfl := hr.trans hf
    obtain rfl : m = 0 := hm0
    clear hne
    first | rw [← hdl] at c5 | skip
    first | rw [← hl.1] at c6 | skip
    have s1 : (n : Int) ≤ 1000000 := by omega
    have s2 : (n' : Int) ≤ 1000000000 := by omega
    clear h hW1 hg hg2 hb1 hq hq2 hsz hl hnil hd hd0 hr hf hm hee hdl hp hei hle
    go_enter Tryd.func30, Tryd.ntmps30
    go_upto_region 1 with fail
    rw [← HW.out.1, ← HW.out.2.1, ← HW.out.2.2]
    go_upto_region 5 with (first
      | (go_at_call 17; go_must (refine CC.out.mono ?_; rintro y w1 ⟨rfl, hb1⟩; obtain ⟨x0, x1, x2⟩ := HCL.out w1 hb1; have HB1 := Lib.hid hb1; clear hb1))
      | (go_at_call 11; go_must (refine (CL.out _ HB1.out).mono ?_; rintro y w2 ⟨rfl, hb2⟩; have HB2 := Lib.hid (HB1.out.trans (hb2.mono HB1.out.size)); clear hb2)))
    obtain ⟨W3, b3, hW3, hb3, hbb3, hq3, hsz3⟩ := one_box w2 (.cells #[.int .i64 (e1 + 1), .int .i64 t, .int .i64 k, .slice A' n' c'] 41)
    rw [← hW3, ← hb3]
    have hbx : Below W1.heap.size W1 W3 := HB2.out.trans (hbb3.mono HB2.out.size)
    obtain ⟨v0, v1, v2, v3⟩ := cells4 hq3
    have hq2 := HQ2.out W3 hbx
    obtain ⟨y0, y1, y2⟩ := cells3 hq2
    obtain ⟨x0, x1, x2⟩ := HCL.out W3 hbx
    have f0 := frozen_own hq2 0
    have f1 := frozen_own hq2 1
    have f2 := frozen_own hq2 2
    have HB := Lib.hid (And.intro hq2 (HE.out.1.trans (hbx.mono HE.out.1.size)))
    clear hW3 hb3 hbb3 hq3 hsz3 hbx hq2
    go_wp2_with (first
      | (go_at_call 36; go_must (refine (C0.out _ _).mono ?_; rintro y w1 ⟨rfl, rfl⟩))
      | (go_at_call 51; go_must (refine (C2.out _ _).mono ?_; rintro y w1 ⟨rfl, rfl⟩)))
    obtain ⟨WF, hWF, z0, z1, z2, hbF, hoth, hsz2⟩ := logRes (b0 := .int .i64 0) (b1 := .int .i64 0) (b2 := .slice none 0 0) HB.out.1 HB.out.2 (show w.heap.size ≤ g2 by have := HE.out; omega)
    unfold put3 at hWF
    rw [hWF]
    have HBF := Lib.hid hbF
    clear hbF hoth hsz2 hWF x0 x1 x2 y0 y1 y2 f0 f1 f2
    refine bodyPost_ret (v := .tuple #[.agg #[.int .i64 0, .int .i64 0, .slice none 0 0], _]) ?_ rfl ⟨none, 0, rfl, HNIL.out _, HBF.out⟩
    simp only [results, hres]
    go_simp
    try rfl
  · exact absurd (by rw [hr, hf]) hne

end Go.Proofs.YtlngcfaadfkbnaaDoor.pk
