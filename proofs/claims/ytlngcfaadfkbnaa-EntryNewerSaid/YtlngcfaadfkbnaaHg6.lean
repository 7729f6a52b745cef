/-
  The program's own log: At, Compact, Add.
-/
import Derived.Test.YtlngcfaadfkbnaaHg5
namespace Go.Proofs.Ytlngcfaadfkbnaa.pk
open Go Go.RowKit
set_option maxRecDepth 100000

/-- Behind a store into a result of an entry's four cells. -/
theorem entRes {W : World} {g2 t : Nat} {a0 a1 a2 a3 b0 b1 b2 b3 : Value} (h : W.heap[g2]? = some (.cells #[a0, a1, a2, a3] t (0, 0))) {B : Nat} {w : World} (hb : Below B w W) (hB : B ≤ g2) :
    ∃ WF, put4 W g2 b0 b1 b2 b3 = WF ∧ WF.cell? ⟨g2, 0, none⟩ = some b0 ∧ WF.cell? ⟨g2, 1, none⟩ = some b1 ∧ WF.cell? ⟨g2, 2, none⟩ = some b2 ∧ WF.cell? ⟨g2, 3, none⟩ = some b3 ∧ Below B w WF ∧ (∀ k, k ≠ g2 → WF.heap[k]? = W.heap[k]?) ∧ WF.heap.size = W.heap.size := by
  obtain ⟨z0, z1, z2, z3⟩ := cells4 (put4_own h b0 b1 b2 b3)
  exact ⟨_, rfl, z0, z1, z2, z3, put4_below hb hB, put4_other _ _ _ _ _ _, put4_size _ _ _ _ _ _⟩


theorem fromE_rest {l : Lg} {i : Int} (hm : mayE l = true) (h0 : l.base ≤ i) : fromE l (i + 1) 4096 = l.l.drop (i - l.base).toNat := by
  have hp := mayE_parts hm
  unfold fromE
  rw [hm, if_neg (by simp; omega), show i + 1 - l.base - 1 = i - l.base from by omega, List.take_of_length_le]
  rw [List.length_drop]
  show _ ≤ 4096
  omega

set_option maxHeartbeats 8000000 in
theorem Compact_g (l : Lg) (A : Option Addr) (n c : Nat) (i : Int) (w : World) (h : Inp l A n c w) (r : Lg × Nat) (hr : r = compactE l i) (q : Nat) (hq0 : q = r.1.l.length) :
    Calls Try.prog 9 #[.agg #[.int .i64 l.base, .int .i64 l.term, .slice A n c], .int .i64 i] w fun y w' => ∃ A1 c1, y = .returned (.tuple #[.agg #[.int .i64 r.1.base, .int .i64 r.1.term, .slice A1 q c1], er r.2]) ∧ Ents w' (.slice A1 q c1) r.1.l ∧ Below w.heap.size w w' := by
  obtain ⟨W1, g, g2, hW1, hg, hg2, hb1, hq, hq2, hsz⟩ := two_box w (.cells #[.int .i64 l.base, .int .i64 l.term, .slice A n c] 30) (.cells #[.int .i64 0, .int .i64 0, .slice none 0 0] 30)
  have HW := Lib.hid (And.intro hW1 (And.intro hg hg2))
  have HE := Lib.hid (And.intro hb1 (And.intro (show w.heap.size = g by omega) (And.intro (show g2 = g + 1 by omega) hsz)))
  have HI := Lib.hid (h.below hb1)
  have HQ2 := Lib.hid (show ∀ W, Below W1.heap.size W1 W → W.heap[g2]? = some (.cells #[.int .i64 0, .int .i64 0, .slice none 0 0] 30 (0, 0)) from fun W hW => (hW.block g2 (obj_lt hq2)).trans hq2)
  have HCL := Lib.hid (show ∀ W, Below W1.heap.size W1 W → W.cell? ⟨g, 0, none⟩ = some (.int .i64 l.base) ∧ W.cell? ⟨g, 1, none⟩ = some (.int .i64 l.term) ∧ W.cell? ⟨g, 2, none⟩ = some (.slice A n c) from fun W hW => cells3 ((hW.block g (obj_lt hq)).trans hq))
  obtain ⟨x0, x1, x2⟩ := cells3 hq
  have hl := h.len
  have hres : Try.f9.results = #[.cell 4 30, .tmp 5] := by kernel_rfl
  obtain ⟨t, k, htk⟩ : ∃ t k, termE l i = (t, k) := ⟨_, _, rfl⟩
  have CT0 := HI.out
  have CT0 := Term_g l A n c i W1 CT0 (t, k) htk.symm
  simp only at CT0
  have hnil : ∀ W, Ents W (.slice none 0 0) [] := fun W => Ents.nil_ W
  have HNIL := Lib.hid hnil
  have hsel : (k ≠ 0 ∧ r = (zl, k)) ∨ (k = 0 ∧ mayE l = true ∧ l.base ≤ i ∧ i ≤ l.base + (n : Int) ∧ r = (⟨i, t, l.l.drop (i - l.base).toNat⟩, 0)) := by
    rw [hr]
    unfold compactE
    rw [htk]
    simp only
    by_cases h0 : k = 0
    · right
      rw [if_pos h0]
      rcases termE_cases l i with ⟨_, ht⟩ | ⟨_, ht⟩ | ⟨_, hm, c1, ht⟩ | ⟨_, hm, c1, c2, ht⟩
      case inl | inr.inl | inr.inr.inl => rw [htk, h0] at ht; cases ht
      · exact ⟨h0, hm, by omega, by omega, rfl⟩
    · left
      rw [if_neg h0]
      exact ⟨h0, rfl⟩
  rcases hsel with ⟨h0, rfl⟩ | ⟨rfl, hm, h1, h2, hr2⟩
  · rw [er_ne h0] at CT0
    have CT := Lib.hid CT0
    have hk0 := Lib.hid (er_ne h0)
    obtain rfl : q = 0 := hq0
    clear h hW1 hg hg2 hb1 hq hq2 hsz hl hnil CT0 htk hr h0
    go_enter Try.func9, Try.ntmps9
    go_upto_region 1 with fail
    rw [← HW.out.1, ← HW.out.2.1, ← HW.out.2.2]
    go_wp2_with (go_at_call 11; go_must (refine CT.out.mono ?_; rintro y w1 ⟨rfl, hb1⟩; have hq2 := HQ2.out w1 hb1; obtain ⟨y0, y1, y2⟩ := cells3 hq2; have f0 := frozen_own hq2 0; have f1 := frozen_own hq2 1; have f2 := frozen_own hq2 2; have HB := Lib.hid (And.intro hq2 (HE.out.1.trans (hb1.mono HE.out.1.size))); clear hb1 hq2))
    obtain ⟨WF, hWF, z0, z1, z2, hbF, hoth, hsz2⟩ := logRes (b0 := .int .i64 0) (b1 := .int .i64 0) (b2 := .slice none 0 0) HB.out.1 HB.out.2 (show w.heap.size ≤ g2 by have := HE.out; omega)
    unfold put3 at hWF
    rw [hWF]
    have HBF := Lib.hid hbF
    clear hbF hoth hsz2 hWF x0 x1 x2 y0 y1 y2 f0 f1 f2
    refine bodyPost_ret (v := .tuple #[.agg #[.int .i64 0, .int .i64 0, .slice none 0 0], .iface 57 (.int .i64 (k : Int))]) ?_ rfl ⟨none, 0, by rw [hk0.out]; rfl, HNIL.out _, HBF.out⟩
    simp only [results, hres]
    go_simp
  · rw [er_zero] at CT0
    have CT := Lib.hid CT0
    have hp := mayE_parts hm
    obtain ⟨j, hj⟩ : ∃ j, j = i + 1 := ⟨_, rfl⟩
    have CF := Lib.hid fun W (hW : Below W1.heap.size W1 W) => From_g l A n c j 4096 W (HI.out.below hW) r.1.l (by rw [hr2, hj, fromE_rest hm h1]) q hq0
    have s1 : IntKind.i64.wrap (i + 1) = j := by rw [IntWalk.i64_in _ (by omega), hj]
    rw [hr2] at CF hq0 ⊢
    simp only at CF hq0 ⊢
    clear h hW1 hg hg2 hb1 hq hq2 hsz hl hnil hq0 CT0 htk hr hm h1 h2 hr2 hp hj
    go_enter Try.func9, Try.ntmps9
    go_upto_region 1 with fail
    rw [← HW.out.1, ← HW.out.2.1, ← HW.out.2.2]
    go_wp2_with (first
      | (go_at_call 11; go_must (refine CT.out.mono ?_; rintro y w1 ⟨rfl, hb1⟩; obtain ⟨x0, x1, x2⟩ := HCL.out w1 hb1; have HB1 := Lib.hid hb1; clear hb1))
      | (go_at_call 18; go_must (refine (CF.out _ HB1.out).mono ?_; rintro y w2 ⟨A2, c2, rfl, hd2, hb2⟩; have hb2 := HB1.out.trans (hb2.mono HB1.out.size); have hq2 := HQ2.out w2 hb2; obtain ⟨y0, y1, y2⟩ := cells3 hq2; have f0 := frozen_own hq2 0; have f1 := frozen_own hq2 1; have f2 := frozen_own hq2 2; have HB := Lib.hid (And.intro hq2 (And.intro hb2 hd2)); clear hb2 hq2 hd2)))
    obtain ⟨WF, hWF, z0, z1, z2, hbF, hoth, hsz2⟩ := logRes (b0 := .int .i64 i) (b1 := .int .i64 t) (b2 := .slice A2 q c2) HB.out.1 (HE.out.1.trans (HB.out.2.1.mono HE.out.1.size)) (show w.heap.size ≤ g2 by have := HE.out; omega)
    unfold put3 at hWF
    rw [hWF]
    have HBF := Lib.hid (And.intro hbF (And.intro hoth hsz2))
    clear hbF hoth hsz2 hWF x0 x1 x2 y0 y1 y2 f0 f1 f2
    refine bodyPost_ret (v := .tuple #[.agg #[.int .i64 i, .int .i64 t, .slice A2 q c2], .nilIface]) ?_ rfl ⟨A2, c2, rfl, ?_, HBF.out.1⟩
    · simp only [results, hres]
      go_simp
    · refine ⟨HB.out.2.2.1.move (fun k hk _ => HBF.out.2.1 k ?_) fun k hk => by rw [HBF.out.2.2]; exact hk.2, HB.out.2.2.2⟩
      have h1 := hk.1
      have h2 := HB1.out.size
      have := HE.out
      omega

end Go.Proofs.Ytlngcfaadfkbnaa.pk
