/-
  The program's own log: clone, reach, Term, Newer, At, From, Compact.
-/
import Derived.Test.YtlngcfaadfkbnaaDoorHg3
namespace Go.Proofs.YtlngcfaadfkbnaaDoor.pk
open Go Go.RowKit
set_option maxRecDepth 100000

theorem behind_nil (A : Option Addr) (n c : Nat) (l : List En) (w : World) (h : EntsT w (fun k => k < w.heap.size) (.slice A n c) l) (hs : SmallE 1000000 100000000 l) :
    Calls Tryd.prog 50 #[.slice none 0 0, .slice A n c] w fun y w' => ∃ A1 c1, y = .returned (.slice A1 n c1) ∧ OwnE w' w.heap.size (fun k => w.heap.size ≤ k) 41 (.slice A1 n c1) l ∧ Below w.heap.size w w' := by
  have hn := h.len_.1
  refine (behind_g w.heap.size (.slice none 0 0) [] A n c l w (Nat.le_refl _) (OwnE.nil_ _ _ _ _) h hs (Nat.zero_le _)).mono ?_
  rintro y w' ⟨v, rfl, ho, hb⟩
  rw [List.nil_append] at ho
  obtain ⟨A1, c1, rfl, -, -⟩ := ho.form hn.symm
  exact ⟨A1, c1, rfl, ho, hb⟩

/-- Behind a store into a result of a log's three cells. -/
theorem logRes {W : World} {g2 t : Nat} {a0 a1 a2 b0 b1 b2 : Value} (h : W.heap[g2]? = some (.cells #[a0, a1, a2] t (0, 0))) {B : Nat} {w : World} (hb : Below B w W) (hB : B ≤ g2) :
    ∃ WF, put3 W g2 b0 b1 b2 = WF ∧ WF.cell? ⟨g2, 0, none⟩ = some b0 ∧ WF.cell? ⟨g2, 1, none⟩ = some b1 ∧ WF.cell? ⟨g2, 2, none⟩ = some b2 ∧ Below B w WF ∧ (∀ k, k ≠ g2 → WF.heap[k]? = W.heap[k]?) ∧ WF.heap.size = W.heap.size := by
  obtain ⟨z0, z1, z2⟩ := cells3 (put3_own h b0 b1 b2)
  exact ⟨_, rfl, z0, z1, z2, put3_below hb hB, put3_other' _ _ _ _ _, put3_size' _ _ _ _ _⟩
/-- Entries on whose blocks nobody writes. -/
theorem OwnE.fents {w w1 WF : World} {B : Nat} {v : Value} {l : List En} {t : TypeId} (h : OwnE w1 B (fun k => B ≤ k) t v l) (hB : w.heap.size ≤ B) (hk : ∀ k, B ≤ k → k < w1.heap.size → WF.heap[k]? = w1.heap[k]?) (hz : w1.heap.size ≤ WF.heap.size) (hok : ∀ e ∈ l, e.ok) : FEnts w WF v l := by
  refine ⟨(h.entsT (fun k => B ≤ k ∧ k < w1.heap.size) (fun _ h1 h2 => ⟨h1, h2⟩) fun _ h1 h2 => ⟨h1, h2⟩).move (fun k hk' _ => hk k hk'.1 hk'.2) fun k hk' => ⟨Nat.le_trans hB hk'.1, Nat.lt_of_lt_of_le hk'.2 hz⟩, hok⟩

set_option maxHeartbeats 4000000 in
theorem clone_g (l : Lg) (A : Option Addr) (n c : Nat) (w : World) (h : Ents w (.slice A n c) l.l) (hs : SmallE 1000000 100000000 l.l) :
    Calls Tryd.prog 46 #[.agg #[.int .i64 l.base, .int .i64 l.term, .slice A n c]] w fun y w' => ∃ A1 c1, y = .returned (.agg #[.int .i64 l.base, .int .i64 l.term, .slice A1 n c1]) ∧ FEnts w w' (.slice A1 n c1) l.l ∧ Below w.heap.size w w' ∧ OwnE w' (w.heap.size + 2) (fun k => w.heap.size + 2 ≤ k) 41 (.slice A1 n c1) l.l ∧ w.heap.size + 2 ≤ w'.heap.size := by
  obtain ⟨W1, g, g2, hW1, hg, hg2, hb1, hq, hq2, hsz⟩ := two_box w (.cells #[.int .i64 l.base, .int .i64 l.term, .slice A n c] 29) (.cells #[.int .i64 0, .int .i64 0, .slice none 0 0] 29)
  have HW := Lib.hid (And.intro hW1 (And.intro hg hg2))
  have HE := Lib.hid (And.intro hb1 (And.intro hq (And.intro hq2 (And.intro (show w.heap.size = g by omega) (And.intro (show g2 = g + 1 by omega) hsz)))))
  have HC := Lib.hid (behind_nil A n c l.l W1 (h.below hb1).1 hs)
  have HOK := Lib.hid h.2
  have HCL := Lib.hid (show ∀ W, Below W1.heap.size W1 W → W.heap[g]? = some (.cells #[.int .i64 l.base, .int .i64 l.term, .slice A n c] 29 (0, 0)) ∧ W.heap[g2]? = some (.cells #[.int .i64 0, .int .i64 0, .slice none 0 0] 29 (0, 0)) from fun W hW => ⟨(hW.block g (obj_lt hq)).trans hq, (hW.block g2 (obj_lt hq2)).trans hq2⟩)
  obtain ⟨x0, x1, x2⟩ := cells3 hq
  have hres : Tryd.f46.results = #[.cell 2 29] := by kernel_rfl
  clear h hs hW1 hb1 hq hq2 hg hg2 hsz
  go_enter Tryd.func46, Tryd.ntmps46
  go_upto_region 1 with fail
  rw [← HW.out.1, ← HW.out.2.1, ← HW.out.2.2]
  go_upto_region 2 with (go_at_call 50; go_must (refine HC.out.mono ?_; rintro y w1 ⟨A1, c1, rfl, hd1, hb1⟩; obtain ⟨hq, hq2⟩ := HCL.out w1 hb1; have f2 := frozen_own hq 2; obtain ⟨x0, x1, x2⟩ := cells3 hq; have HB1 := Lib.hid (And.intro hd1 (And.intro hb1 (And.intro hq hq2))); clear hd1 hb1 hq hq2))
  clear x0 x1 x2 f2
  obtain ⟨W2, hW2⟩ : ∃ W, W = w1.setCell ⟨g, 2, none⟩ (.slice A1 n c1) := ⟨_, rfl⟩
  have hq := set2_own (v := .slice A1 n c1) HB1.out.2.2.1
  have hq2 : (w1.setCell ⟨g, 2, none⟩ (.slice A1 n c1)).heap[g2]? = _ := (Below.heap_setCell w1 ⟨g, 2, none⟩ _ g2 (by have := HE.out.2.2.2.2.1; simp only; omega)).trans HB1.out.2.2.2
  rw [← hW2] at hq hq2 ⊢
  obtain ⟨x0, x1, x2⟩ := cells3 hq
  obtain ⟨y0, y1, y2⟩ := cells3 hq2
  have f0 := frozen_own hq2 0
  have f1 := frozen_own hq2 1
  have f2 := frozen_own hq2 2
  have H2 := Lib.hid (And.intro hW2 hq2)
  clear hW2 hq hq2
  go_wp2_with fail
  have hb2 : Below g w W2 := by rw [H2.out.1]; exact ((HE.out.1.mono (by rw [HE.out.2.2.2.1]; exact Nat.le_refl _)).trans (HB1.out.2.1.mono (by have := HE.out.2.2.2.2; omega))).setCell (show g ≤ g from Nat.le_refl g) _
  obtain ⟨WF, hWF, z0, z1, z2, hbF, hoth, hsz2⟩ := logRes (b0 := .int .i64 l.base) (b1 := .int .i64 l.term) (b2 := .slice A1 n c1) H2.out.2 hb2 (show g ≤ g2 by have := HE.out.2.2.2.2.1; omega)
  unfold put3 at hWF
  rw [hWF]
  have hoth2 : ∀ k, g2 < k → WF.heap[k]? = w1.heap[k]? := fun k hk => by
    rw [hoth k (by omega), H2.out.1, Below.heap_setCell _ _ _ _ (by have := HE.out.2.2.2.2.1; simp only; omega)]
  have hsz3 : WF.heap.size = w1.heap.size := by rw [hsz2, H2.out.1, World.size_setCell]
  have HF := Lib.hid (And.intro hbF (And.intro hoth2 hsz3))
  clear hbF hoth hsz2 hWF x0 x1 x2 y0 y1 y2 f0 f1 f2 hb2 hoth2 hsz3
  have hgw := HE.out.2.2.2.1
  have hgs : W1.heap.size = w.heap.size + 2 := by have := HE.out.2.2.2.2; omega
  refine bodyPost_ret (v := .agg #[.int .i64 l.base, .int .i64 l.term, .slice A1 n c1]) ?_ rfl ⟨A1, c1, rfl, ?_, by rw [hgw]; exact HF.out.1, ?_, by rw [HF.out.2.2, ← hgs]; exact HB1.out.2.1.size⟩
  · simp only [results, hres]
    go_simp
  · refine HB1.out.1.fents (by omega) (fun k hk _ => HF.out.2.1 k ?_) (by rw [HF.out.2.2]; exact Nat.le_refl _) HOK.out
    have := HE.out.2.2.2.2; omega
  · rw [← hgs]
    refine HB1.out.1.kept (fun k hk hk2 => HF.out.2.1 k ?_) (by rw [HF.out.2.2]; exact Nat.le_refl _)
    have h1 := HE.out.2.2.2.2
    rcases hk2 with hk2 | hk2
    · omega
    · have := (HB1.out.1.lt k hk2).1; omega

def reachE (l : Lg) (i least : Int) : Nat := if mayE l = false then 1 else if l.base + (l.l.length : Int) < i ∨ i < least then 8 else 0

set_option maxHeartbeats 4000000 in
theorem reach_g (l : Lg) (A : Option Addr) (n c : Nat) (i least : Int) (w : World) (h : Inp l A n c w) (k : Nat) (hk : k = reachE l i least) :
    Calls Tryd.prog 33 #[.agg #[.int .i64 l.base, .int .i64 l.term, .slice A n c], .int .i64 i, .int .i64 least] w fun y w' => y = .returned (er k) ∧ Below w.heap.size w w' := by
  obtain ⟨W1, g, hW1, hg, hb1, hq, hsz⟩ := one_box w (.cells #[.int .i64 l.base, .int .i64 l.term, .slice A n c] 29)
  have HW := Lib.hid (And.intro hW1 hg)
  have HE := Lib.hid (And.intro hb1 (And.intro hq hsz))
  have HI := Lib.hid (h.below hb1)
  have HCL := Lib.hid (show ∀ W, Below W1.heap.size W1 W → W.cell? ⟨g, 0, none⟩ = some (.int .i64 l.base) ∧ W.cell? ⟨g, 1, none⟩ = some (.int .i64 l.term) ∧ W.cell? ⟨g, 2, none⟩ = some (.slice A n c) from fun W hW => cells3 ((hW.block g (obj_lt hq)).trans hq))
  obtain ⟨x0, x1, x2⟩ := cells3 hq
  have hl := h.len
  cases hm : mayE l with
  | false =>
    have CC := Lib.hid (HI.out.bad hm)
    obtain rfl : k = 1 := by rw [hk]; unfold reachE; rw [if_pos hm]
    clear h hW1 hg hb1 hq hsz hk hm hl
    go_enter Tryd.func33, Tryd.ntmps33
    go_upto_region 1 with fail
    rw [← HW.out.1, ← HW.out.2]
    go_wp2_with (go_at_call 17; go_must (refine CC.out.mono ?_; rintro y w1 ⟨rfl, hb1⟩; have HB := Lib.hid (HE.out.1.trans (hb1.mono HE.out.1.size)); clear hb1))
    go_ret
    exact ⟨rfl, HB.out⟩
  | true =>
    have hp := mayE_parts hm
    have CC := Lib.hid (HI.out.good hm)
    obtain ⟨e1, he1⟩ : ∃ e1, e1 = l.base + (n : Int) := ⟨_, rfl⟩
    have CE := Lib.hid fun W => end_g l A n c W hp.1 (by omega) (by omega) e1 he1
    have hcase : (e1 < i ∧ k = 8) ∨ (¬ e1 < i ∧ i < least ∧ k = 8) ∨ (¬ e1 < i ∧ ¬ i < least ∧ k = 0) := by
      have hk' : k = if e1 < i ∨ i < least then 8 else 0 := by rw [hk]; unfold reachE; rw [hm, if_neg (by simp), he1, hl.1]
      by_cases c1 : e1 < i
      · exact Or.inl ⟨c1, by rw [hk', if_pos (Or.inl c1)]⟩
      · by_cases c2 : i < least
        · exact Or.inr (Or.inl ⟨c1, c2, by rw [hk', if_pos (Or.inr c2)]⟩)
        · exact Or.inr (Or.inr ⟨c1, c2, by rw [hk', if_neg (by omega)]⟩)
    clear h hW1 hg hb1 hq hsz hm hl hp he1 hk
    rcases hcase with ⟨c1, rfl⟩ | ⟨c1, c2, rfl⟩ | ⟨c1, c2, rfl⟩
    all_goals
      go_enter Tryd.func33, Tryd.ntmps33
      go_upto_region 1 with fail
      rw [← HW.out.1, ← HW.out.2]
      go_wp2_with (first
        | (go_at_call 17; go_must (refine CC.out.mono ?_; rintro y w1 ⟨rfl, hb1⟩; obtain ⟨x0, x1, x2⟩ := HCL.out w1 hb1; have HB1 := Lib.hid hb1; clear hb1))
        | (go_at_call 31; go_must (refine (CE.out _).mono ?_; rintro y w2 ⟨rfl, hb2⟩; have HB2 := Lib.hid (HB1.out.trans (hb2.mono HB1.out.size)); clear hb2)))
      go_ret
      exact ⟨rfl, HE.out.1.trans (HB2.out.mono HE.out.1.size)⟩

theorem termE_cases (l : Lg) (i : Int) : (reachE l i 0 = 1 ∧ termE l i = (0, 1)) ∨ (reachE l i 0 = 8 ∧ termE l i = (0, 8)) ∨ (reachE l i 0 = 0 ∧ mayE l = true ∧ i < l.base ∧ termE l i = (0, 22)) ∨ (reachE l i 0 = 0 ∧ mayE l = true ∧ ¬ i < l.base ∧ i ≤ l.base + (l.l.length : Int) ∧ termE l i = (tmE l i, 0)) := by
  unfold reachE termE
  cases hm : mayE l with
  | false => simp
  | true =>
    have he := endE_index hm
    rw [he]
    simp only [Bool.true_eq_false, if_false]
    by_cases c1 : i < 0 ∨ l.base + (l.l.length : Int) < i
    · rw [if_pos c1, if_pos (by omega)]; simp
    · rw [if_neg c1, if_neg (by omega)]
      by_cases c2 : i < l.base
      · rw [if_pos c2]; simp [c2]
      · rw [if_neg c2]
        unfold tmE
        right; right; right
        refine ⟨rfl, trivial, c2, by omega, ?_⟩
        by_cases c3 : i = l.base
        · rw [if_pos c3, if_pos c3]
        · rw [if_neg c3, if_neg c3]

set_option maxHeartbeats 4000000 in
theorem Term_g (l : Lg) (A : Option Addr) (n c : Nat) (i : Int) (w : World) (h : Inp l A n c w) (r : Int × Nat) (hr : r = termE l i) :
    Calls Tryd.prog 13 #[.agg #[.int .i64 l.base, .int .i64 l.term, .slice A n c], .int .i64 i] w fun y w' => y = .returned (.tuple #[.int .i64 r.1, er r.2]) ∧ Below w.heap.size w w' := by
  obtain ⟨W1, g, hW1, hg, hb1, hq, hsz⟩ := one_box w (.cells #[.int .i64 l.base, .int .i64 l.term, .slice A n c] 29)
  have HW := Lib.hid (And.intro hW1 hg)
  have HE := Lib.hid (And.intro hb1 (And.intro hq hsz))
  have HI := Lib.hid (h.below hb1)
  have HCL := Lib.hid (show ∀ W, Below W1.heap.size W1 W → W.cell? ⟨g, 0, none⟩ = some (.int .i64 l.base) ∧ W.cell? ⟨g, 1, none⟩ = some (.int .i64 l.term) ∧ W.cell? ⟨g, 2, none⟩ = some (.slice A n c) from fun W hW => cells3 ((hW.block g (obj_lt hq)).trans hq))
  obtain ⟨x0, x1, x2⟩ := cells3 hq
  have hl := h.len
  rcases termE_cases l i with ⟨hk, ht⟩ | ⟨hk, ht⟩ | ⟨hk, hm, c1, ht⟩ | ⟨hk, hm, c1, c2, ht⟩
  · have CR := HI.out
    have CR := reach_g l A n c i 0 W1 CR 1 hk.symm
    rw [er_ne (by decide)] at CR
    have CR := Lib.hid CR
    rw [ht] at hr
    subst hr
    clear h hW1 hg hb1 hq hsz hk hl ht
    go_enter Tryd.func13, Tryd.ntmps13
    go_upto_region 1 with fail
    rw [← HW.out.1, ← HW.out.2]
    go_wp2_with (go_at_call 33; go_must (refine CR.out.mono ?_; rintro y w1 ⟨rfl, hb1⟩; have HB := Lib.hid (HE.out.1.trans (hb1.mono HE.out.1.size)); clear hb1))
    go_ret2
    exact ⟨rfl, HB.out⟩
  · have CR := HI.out
    have CR := reach_g l A n c i 0 W1 CR 8 hk.symm
    rw [er_ne (by decide)] at CR
    have CR := Lib.hid CR
    rw [ht] at hr
    subst hr
    clear h hW1 hg hb1 hq hsz hk hl ht
    go_enter Tryd.func13, Tryd.ntmps13
    go_upto_region 1 with fail
    rw [← HW.out.1, ← HW.out.2]
    go_wp2_with (go_at_call 33; go_must (refine CR.out.mono ?_; rintro y w1 ⟨rfl, hb1⟩; have HB := Lib.hid (HE.out.1.trans (hb1.mono HE.out.1.size)); clear hb1))
    go_ret2
    exact ⟨rfl, HB.out⟩
  · have CR := HI.out
    have CR := reach_g l A n c i 0 W1 CR 0 hk.symm
    rw [er_zero] at CR
    have CR := Lib.hid CR
    rw [ht] at hr
    subst hr
    clear h hW1 hg hb1 hq hsz hk hl ht hm
    go_enter Tryd.func13, Tryd.ntmps13
    go_upto_region 1 with fail
    rw [← HW.out.1, ← HW.out.2]
    go_wp2_with (go_at_call 33; go_must (refine CR.out.mono ?_; rintro y w1 ⟨rfl, hb1⟩; obtain ⟨x0, x1, x2⟩ := HCL.out w1 hb1; have HB := Lib.hid (HE.out.1.trans (hb1.mono HE.out.1.size)); clear hb1))
    go_ret2
    exact ⟨rfl, HB.out⟩
  · have CR := HI.out
    have CR := reach_g l A n c i 0 W1 CR 0 hk.symm
    rw [er_zero] at CR
    have CR := Lib.hid CR
    rw [ht] at hr
    obtain ⟨z, hz⟩ : ∃ z, z = tmE l i := ⟨_, rfl⟩
    rw [← hz] at hr
    subst hr
    have hp := mayE_parts hm
    have CT := Lib.hid fun W (hW : Below W1.heap.size W1 W) => termAt_g l A n c i W (HI.out.e.below hW) hp.1 (by omega) (by omega) (by omega) (by omega) z hz
    clear h hW1 hg hb1 hq hsz hk hl ht hm hp hz
    go_enter Tryd.func13, Tryd.ntmps13
    go_upto_region 1 with fail
    rw [← HW.out.1, ← HW.out.2]
    go_wp2_with (first
      | (go_at_call 33; go_must (refine CR.out.mono ?_; rintro y w1 ⟨rfl, hb1⟩; obtain ⟨x0, x1, x2⟩ := HCL.out w1 hb1; have HB1 := Lib.hid hb1; clear hb1))
      | (go_at_call 32; go_must (refine (CT.out _ HB1.out).mono ?_; rintro y w2 ⟨rfl, hb2⟩; have HB2 := Lib.hid (HB1.out.trans (hb2.mono HB1.out.size)); clear hb2)))
    go_ret2
    exact ⟨rfl, HE.out.1.trans (HB2.out.mono HE.out.1.size)⟩

end Go.Proofs.YtlngcfaadfkbnaaDoor.pk
