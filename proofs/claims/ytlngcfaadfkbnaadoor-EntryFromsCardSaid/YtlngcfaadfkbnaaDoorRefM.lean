/-
  The document's own words of a log: Last, Term, At, From, Compact, Newer.
-/
import Derived.Test.YtlngcfaadfkbnaaDoorRefL
namespace Go.Proofs.YtlngcfaadfkbnaaDoor.pk
open Go Go.RowKit
set_option maxRecDepth 100000

theorem ret_bool {a b : Bool} (h : a = b) : Ending.returned (.bool a) = Ending.returned (.bool b) := by rw [h]
theorem endE_nil {l : Lg} (h : l.l.length = 0) : endE l = (l.base, l.term) := by
  have : l.l = [] := List.eq_nil_of_length_eq_zero h
  unfold endE; rw [this]; rfl
theorem endE_more {l : Lg} {k : Nat} (h : l.l.length = k + 1) (hk : k < l.l.length) : endE l = (l.l[k].index, l.l[k].term) := by
  unfold endE
  rw [List.getLast?_eq_getElem?, h, Nat.add_sub_cancel, List.getElem?_eq_getElem hk]
theorem lastE_may {l : Lg} (h : mayE l = true) : lastE l = endE l := by unfold lastE; rw [if_pos h]
theorem lastE_not {l : Lg} (h : mayE l = false) : lastE l = (0, 0) := by unfold lastE; rw [h]; rfl
/-- The parts of a log that may be. -/
theorem mayE_parts {l : Lg} (h : mayE l = true) : 0 ≤ l.base ∧ l.base ≤ 1099511627776 ∧ 0 ≤ l.term ∧ l.term ≤ 1099511627776 ∧ l.l.length ≤ 4096 ∧ (endE l).1 = l.base + l.l.length ∧ (endE l).1 ≤ 1099511627776 ∧ 0 ≤ (endE l).2 ∧ (endE l).2 ≤ 1099511627776 := by
  have hh := headE_iff.1 (mayE_iff.1 h).1
  have hb := (mayE_iff.1 h).2
  have he := endE_index h
  refine ⟨hh.1, hh.2.1, hh.2.2.1, hh.2.2.2.1, hh.2.2.2.2.2, he, ?_⟩
  cases hn : l.l.length with
  | zero => rw [endE_nil hn]; simp only; omega
  | succ k =>
    have hk : k < l.l.length := by omega
    have := behindE_at hb k hk
    rw [endE_more hn hk]
    simp only
    omega

set_option maxHeartbeats 4000000 in
theorem Last_any (l : Lg) (A : Option Addr) (n c : Nat) (w : World) (h : Ents w (.slice A n c) l.l) (hi : inI l.base) (ht : inI l.term) (r : Int × Int) (hr : r = lastE l) :
    Calls Tryd.prog 12 #[.agg #[.int .i64 l.base, .int .i64 l.term, .slice A n c]] w fun y w' => y = .returned (.tuple #[.int .i64 r.1, .int .i64 r.2]) ∧ Below w.heap.size w w' := by
  obtain ⟨hn, hnc, hcm⟩ := h.len_
  have HA := Lib.hid (below_alloc w)
  have HC := Lib.hid fun b (hb : b = mayE l) W (hW : Below w.heap.size w W) => May_any l A n c W (h.below hW) hi ht b hb
  cases hm : mayE l with
  | false =>
    have HM := HC.out false hm.symm _ (HA.out (.cells #[.int .i64 l.base, .int .i64 l.term, .slice A n c] 24))
    have HR := Lib.hid (hr.trans (lastE_not hm))
    clear h hn hnc hcm hr hm HC
    go_enter Tryd.func12, Tryd.ntmps12
    go_wp2_with (go_at_call 18; go_must (refine HM.mono ?_; rintro y w1 ⟨rfl, hb1⟩; have HB := Lib.hid ((HA.out _).trans (hb1.mono (HA.out _).size)); clear hb1))
    go_ret2
    exact ⟨by rw [HR.out]; rfl, HB.out⟩
  | true =>
    have HM := Lib.hid (HC.out true hm.symm _ (HA.out (.cells #[.int .i64 l.base, .int .i64 l.term, .slice A n c] 24)))
    have hp := mayE_parts hm
    have HR := Lib.hid (hr.trans (lastE_may hm))
    have hq := heap_alloc_new w (.cells #[.int .i64 l.base, .int .i64 l.term, .slice A n c] 24)
    have hb := HA.out (.cells #[.int .i64 l.base, .int .i64 l.term, .slice A n c] 24)
    have hcells : ∀ W, Below (w.heap.size + 1) (w.alloc (.cells #[.int .i64 l.base, .int .i64 l.term, .slice A n c] 24)) W → W.cell? ⟨w.heap.size, 0, none⟩ = some (.int .i64 l.base) ∧ W.cell? ⟨w.heap.size, 1, none⟩ = some (.int .i64 l.term) ∧ W.cell? ⟨w.heap.size, 2, none⟩ = some (.slice A n c) := by
      intro W hW
      have e := (hW.block w.heap.size (by omega)).trans hq
      refine ⟨?_, ?_, ?_⟩ <;> (rw [cell_of_row W w.heap.size _ _ _ (0, 0) e]; rfl)
    have HCL := Lib.hid hcells
    have hsz : (w.alloc (.cells #[.int .i64 l.base, .int .i64 l.term, .slice A n c] 24)).heap.size = w.heap.size + 1 := World.size_alloc _ _
    have HSZ := Lib.hid hsz
    by_cases h0 : n = 0
    · subst h0
      have HE := Lib.hid (HR.out.trans (endE_nil hn.symm))
      clear h hn hnc hcm hr hm HC hp HR hq hb hcells hsz
      go_enter Tryd.func12, Tryd.ntmps12
      go_upto_region 3 with (go_at_call 18; go_must (refine HM.out.mono ?_; rintro y w1 ⟨rfl, hb1⟩; obtain ⟨x0, x1, x2⟩ := HCL.out w1 (by rw [HSZ.out] at hb1; exact hb1); have HB := Lib.hid ((HA.out _).trans (hb1.mono (HA.out _).size)); clear hb1))
      go_wp2_with fail
      go_quiet (fail)
      go_wp2_with fail
      go_ret2
      exact ⟨by rw [HE.out]; rfl, below_drawn HB.out _⟩
    · obtain ⟨k, hkn⟩ : ∃ k, n = k + 1 := ⟨n - 1, by omega⟩
      have hk : k < l.l.length := by omega
      have HE := Lib.hid (HR.out.trans (endE_more (hn.symm.trans hkn) hk))
      obtain ⟨bk, off, Ad, cd, rfl, hbb, hok, q0, q1, -⟩ := h.at_ k hk
      obtain ⟨e, he⟩ : ∃ e, e = l.l[k] := ⟨_, rfl⟩
      rw [← he] at q0 q1 HE
      have s1 : IntKind.i64.wrap ((n : Int) - 1) = (k : Int) := by rw [IntWalk.i64_in _ (by omega)]; omega
      have s2 : (k : Int) < (n : Int) := by omega
      have s3 : (n : Int) ≤ (c : Int) := by omega
      have s4 : ((n : Int) == 0) = false := beq_eq_false_iff_ne.2 (by omega)
      have HQ := Lib.hid (And.intro q0 (And.intro q1 hbb))
      clear h hn hcm hr hm HC hp HR hq hb hcells hsz hk q0 q1 hok he hbb h0 hkn hnc
      go_enter Tryd.func12, Tryd.ntmps12
      go_upto_region 3 with (go_at_call 18; go_must (refine HM.out.mono ?_; rintro y w1 ⟨rfl, hb1⟩; obtain ⟨x0, x1, x2⟩ := HCL.out w1 (by rw [HSZ.out] at hb1; exact hb1); have HB := Lib.hid ((HA.out _).trans (hb1.mono (HA.out _).size)); clear hb1; have p0 := (HB.out.cell (p := ⟨bk, off + k * 4, none⟩) HQ.out.2.2).trans HQ.out.1; have p1 := (HB.out.cell (p := ⟨bk, off + k * 4 + 1, none⟩) HQ.out.2.2).trans HQ.out.2.1))
      go_wp2_with fail
      go_quiet (fail)
      go_wp2_with fail
      go_ret2
      exact ⟨by rw [HE.out]; rfl, below_drawn HB.out _⟩


set_option maxHeartbeats 4000000 in
theorem Term_any (l : Lg) (A : Option Addr) (n c : Nat) (i : Int) (w : World) (h : Ents w (.slice A n c) l.l) (hi : inI l.base) (ht : inI l.term) (hk : inI i) (r : Int × Nat) (hr : r = termE l i) :
    Calls Tryd.prog 14 #[.agg #[.int .i64 l.base, .int .i64 l.term, .slice A n c], .int .i64 i] w fun y w' => y = .returned (.tuple #[.int .i64 r.1, .int .i64 (r.2 : Int)]) ∧ Below w.heap.size w w' := by
  obtain ⟨hn, hnc, hcm⟩ := h.len_
  have HC := Lib.hid fun b (hb : b = mayE l) W (hW : Below w.heap.size w W) => May_any l A n c W (h.below hW) hi ht b hb
  have HL := Lib.hid fun r (hb : r = lastE l) W (hW : Below w.heap.size w W) => Last_any l A n c W (h.below hW) hi ht r hb
  obtain ⟨W1, g, hW1, hg, hb1, hq, hsz⟩ := one_box w (.cells #[.int .i64 l.base, .int .i64 l.term, .slice A n c] 24)
  have HW := Lib.hid (And.intro hW1 hg)
  have HE := Lib.hid (And.intro hb1 (And.intro hq hsz))
  have hcells : ∀ W, Below W1.heap.size W1 W → W.cell? ⟨g, 0, none⟩ = some (.int .i64 l.base) ∧ W.cell? ⟨g, 1, none⟩ = some (.int .i64 l.term) ∧ W.cell? ⟨g, 2, none⟩ = some (.slice A n c) := fun W hW => cells3 ((hW.block g (obj_lt hq)).trans hq)
  have HCL := Lib.hid hcells
  obtain ⟨x0, x1, x2⟩ := hcells W1 (Below.refl _ _)
  cases hm : mayE l with
  | false =>
    have HM := HC.out false hm.symm _ hb1
    have HR := Lib.hid (show r = (0, 1) by rw [hr]; unfold termE; rw [hm, if_pos rfl])
    clear h hn hnc hcm hr hm HC hW1 hg hb1 hq hsz hcells
    go_enter Tryd.func14, Tryd.ntmps14
    go_upto_region 1 with fail
    rw [← HW.out.1, ← HW.out.2]
    go_wp2_with (go_at_call 18; go_must (refine HM.mono ?_; rintro y w1 ⟨rfl, hb1⟩; have HB := Lib.hid (HE.out.1.trans (hb1.mono HE.out.1.size)); clear hb1))
    go_ret2
    exact ⟨by rw [HR.out]; rfl, HB.out⟩
  | true =>
    have HM := Lib.hid (HC.out true hm.symm _ hb1)
    have HL := Lib.hid (fun W hW => HL.out _ (lastE_may hm).symm W hW)
    have hp := mayE_parts hm
    obtain ⟨p0, p1, p2, p3, p4, p5, p6, p7, p8⟩ := hp
    have hr' : r = if i < 0 ∨ (endE l).1 < i then (0, 8) else if i < l.base then (0, 22) else if i = l.base then (l.term, 0) else ((l.l.getD (i - l.base - 1).toNat ze).term, 0) := by rw [hr]; unfold termE; rw [hm, if_neg (by simp)]
    clear hr
    obtain ⟨e1, e2, hee⟩ : ∃ e1 e2, endE l = (e1, e2) := ⟨_, _, rfl⟩
    rw [hee] at p5 p6 p7 p8 hr' HL
    simp only at p5 p6 p7 p8 hr' HL
    have hcase : (i < 0 ∧ r = (0, 8)) ∨ (0 ≤ i ∧ e1 < i ∧ r = (0, 8)) ∨ (0 ≤ i ∧ i ≤ e1 ∧ i < l.base ∧ r = (0, 22)) ∨ (0 ≤ i ∧ i ≤ e1 ∧ i = l.base ∧ r = (l.term, 0)) ∨ (0 ≤ i ∧ i ≤ e1 ∧ l.base < i ∧ r = ((l.l.getD (i - l.base - 1).toNat ze).term, 0)) := by
      by_cases c1 : i < 0
      · left; exact ⟨c1, by rw [hr', if_pos (Or.inl c1)]⟩
      · by_cases c2 : e1 < i
        · right; left; exact ⟨by omega, c2, by rw [hr', if_pos (Or.inr c2)]⟩
        · rw [if_neg (by omega)] at hr'
          by_cases c3 : i < l.base
          · right; right; left; exact ⟨by omega, by omega, c3, by rw [hr', if_pos c3]⟩
          · rw [if_neg c3] at hr'
            by_cases c4 : i = l.base
            · right; right; right; left; exact ⟨by omega, by omega, c4, by rw [hr', if_pos c4]⟩
            · right; right; right; right; exact ⟨by omega, by omega, by omega, by rw [hr', if_neg c4]⟩
    clear hr' hW1 hg hb1 hq hsz hcells hee
    have HI := Lib.hid (And.intro hi (And.intro ht hk))
    rcases hcase with ⟨c1, hr⟩ | ⟨c1, c2, hr⟩ | ⟨c1, c2, c3, hr⟩ | ⟨c1, c2, c3, hr⟩ | ⟨c1, c2, c3, hr⟩
    case inr.inr.inr.inr =>
      obtain ⟨k, hkk⟩ : ∃ k : Nat, i = l.base + 1 + (k : Int) := ⟨(i - l.base - 1).toNat, by omega⟩
      have hkl : k < l.l.length := by omega
      obtain ⟨bk, off, Ad, cd, rfl, hbb, hok, q0, q1, -⟩ := h.at_ k hkl
      have hr2 : r = (l.l[k].term, 0) := by
        rw [hr, show (i - l.base - 1).toNat = k from by omega, List.getD, List.getElem?_eq_getElem hkl]
        rfl
      obtain ⟨e, he⟩ : ∃ e, e = l.l[k] := ⟨_, rfl⟩
      rw [← he] at q1 hr2
      have HR := Lib.hid hr2
      have HQ := Lib.hid (And.intro q1 hbb)
      have s0 : i - l.base - 1 = (k : Int) := by omega
      have s2 : (k : Int) < (n : Int) := by omega
      have s3 : (n : Int) ≤ (c : Int) := by omega
      have z1 : ¬ i < 0 := by omega
      have z2 : ¬ i < l.base := by omega
      have z3 : (i == l.base) = false := beq_eq_false_iff_ne.2 (by omega)
      have b1 : i ≤ 1099511627776 := by omega
      clear h hn hcm hm HC hr hr2 hkk hkl he q0 q1 hbb hok p5 p6 p7 p8 hnc hi ht hk
      go_enter Tryd.func14, Tryd.ntmps14
      go_upto_region 1 with fail
      rw [← HW.out.1, ← HW.out.2]
      go_wp2_with (first
        | (go_at_call 18; go_must (refine HM.out.mono ?_; rintro y w1 ⟨rfl, hb1⟩; obtain ⟨x0, x1, x2⟩ := HCL.out w1 hb1; have HB1 := Lib.hid hb1; have HB := Lib.hid (HE.out.1.trans (hb1.mono HE.out.1.size)); clear hb1))
        | (go_at_call 12; go_must (refine (HL.out _ HB.out).mono ?_; rintro y w2 ⟨rfl, hb2⟩; obtain ⟨x0, x1, x2⟩ := HCL.out w2 (HB1.out.trans (hb2.mono HB1.out.size)); have HB2 := Lib.hid (HB.out.trans (hb2.mono HB.out.size)); have p0 := (HB2.out.cell (p := ⟨bk, off + k * 4 + 1, none⟩) HQ.out.2).trans HQ.out.1; clear hb2)))
      go_ret2
      exact ⟨by rw [HR.out]; rfl, HB2.out⟩
    all_goals
      have HR := Lib.hid hr
      clear h hn hcm hm HC hr p5 p6 p7 p8 hnc hi ht hk
      try subst c3
      go_enter Tryd.func14, Tryd.ntmps14
      go_upto_region 1 with fail
      rw [← HW.out.1, ← HW.out.2]
      go_wp2_with (first
        | (go_at_call 18; go_must (refine HM.out.mono ?_; rintro y w1 ⟨rfl, hb1⟩; obtain ⟨x0, x1, x2⟩ := HCL.out w1 hb1; have HB1 := Lib.hid hb1; have HB := Lib.hid (HE.out.1.trans (hb1.mono HE.out.1.size)); clear hb1))
        | (go_at_call 12; go_must (refine (HL.out _ HB.out).mono ?_; rintro y w2 ⟨rfl, hb2⟩; obtain ⟨x0, x1, x2⟩ := HCL.out w2 (HB1.out.trans (hb2.mono HB1.out.size)); have HB2 := Lib.hid (HB.out.trans (hb2.mono HB.out.size)); clear hb2)))
      go_ret2
      exact ⟨by rw [HR.out]; rfl, HB2.out⟩

set_option maxHeartbeats 4000000 in
theorem At_any (l : Lg) (A : Option Addr) (n c : Nat) (i : Int) (w : World) (h : Ents w (.slice A n c) l.l) (hi : inI l.base) (ht : inI l.term) (hk : inI i) (r : En × Nat) (hr : r = atE l i) :
    Calls Tryd.prog 16 #[.agg #[.int .i64 l.base, .int .i64 l.term, .slice A n c], .int .i64 i] w fun y w' => ∃ Ad cd, y = .returned (.tuple #[.agg #[.int .i64 r.1.index, .int .i64 r.1.term, .int .i64 r.1.kind, .slice Ad r.1.data.length cd], .int .i64 (r.2 : Int)]) ∧ Bys w' (.slice Ad r.1.data.length cd) r.1.data ∧ Below w.heap.size w w' := by
  obtain ⟨hn, hnc, hcm⟩ := h.len_
  have HC := Lib.hid fun b (hb : b = mayE l) W (hW : Below w.heap.size w W) => May_any l A n c W (h.below hW) hi ht b hb
  have HL := Lib.hid fun r (hb : r = lastE l) W (hW : Below w.heap.size w W) => Last_any l A n c W (h.below hW) hi ht r hb
  obtain ⟨W1, g, g2, hW1, hg, hg2, hb1, hq, hq2, hsz⟩ := two_box w (.cells #[.int .i64 l.base, .int .i64 l.term, .slice A n c] 24) (.cells #[.int .i64 0, .int .i64 0, .int .i64 0, .slice none 0 0] 44)
  have HW := Lib.hid (And.intro hW1 (And.intro hg hg2))
  have HE := Lib.hid (And.intro hb1 (And.intro (show w.heap.size ≤ g2 by omega) hsz))
  have hcells : ∀ W, Below W1.heap.size W1 W → W.cell? ⟨g, 0, none⟩ = some (.int .i64 l.base) ∧ W.cell? ⟨g, 1, none⟩ = some (.int .i64 l.term) ∧ W.cell? ⟨g, 2, none⟩ = some (.slice A n c) := fun W hW => cells3 ((hW.block g (obj_lt hq)).trans hq)
  have hres2 : ∀ W, Below W1.heap.size W1 W → W.heap[g2]? = some (.cells #[.int .i64 0, .int .i64 0, .int .i64 0, .slice none 0 0] 44 (0, 0)) := fun W hW => (hW.block g2 (obj_lt hq2)).trans hq2
  have hfz : ∀ W, Below W1.heap.size W1 W → W.frozen? ⟨g2, 0, none⟩ = false ∧ W.frozen? ⟨g2, 1, none⟩ = false ∧ W.frozen? ⟨g2, 2, none⟩ = false ∧ W.frozen? ⟨g2, 3, none⟩ = false := fun W hW => ⟨frozen_own (hres2 W hW) _, frozen_own (hres2 W hW) _, frozen_own (hres2 W hW) _, frozen_own (hres2 W hW) _⟩
  have HCL := Lib.hid (fun W hW => And.intro (hcells W hW) (And.intro (cells4 (hres2 W hW)) (hfz W hW)))
  have HRS := Lib.hid hres2
  obtain ⟨x0, x1, x2⟩ := hcells W1 (Below.refl _ _)
  have hres : Tryd.f16.results = #[.cell 4 44, .tmp 5] := by kernel_rfl
  cases hm : mayE l with
  | false =>
    have HM := HC.out false hm.symm _ hb1
    have HR := Lib.hid (show r = (ze, 1) by rw [hr]; unfold atE; rw [hm, if_pos rfl])
    clear h hn hnc hcm hr hm HC hW1 hg hg2 hb1 hq hq2 hsz hcells hres2 hfz
    go_enter Tryd.func16, Tryd.ntmps16
    go_upto_region 1 with fail
    rw [← HW.out.1, ← HW.out.2.1, ← HW.out.2.2]
    go_wp2_with (go_at_call 18; go_must (refine HM.mono ?_; rintro y w1 ⟨rfl, hb1⟩; obtain ⟨⟨x0, x1, x2⟩, ⟨y0, y1, y2, y3⟩, ⟨f0, f1, f2, f3⟩⟩ := HCL.out w1 hb1; have HS := Lib.hid (HRS.out w1 hb1); have HB := Lib.hid (HE.out.1.trans (hb1.mono HE.out.1.size)); clear hb1))
    obtain ⟨WF, hWF⟩ : ∃ W, W = put4 w1 g2 (.int .i64 0) (.int .i64 0) (.int .i64 0) (.slice none 0 0) := ⟨_, rfl⟩
    have hbF := put4_below (b := g2) (v0 := .int .i64 0) (v1 := .int .i64 0) (v2 := .int .i64 0) (v3 := .slice none 0 0) HB.out HE.out.2.1
    obtain ⟨z0, z1, z2, z3⟩ := cells4 (put4_own HS.out (.int .i64 0) (.int .i64 0) (.int .i64 0) (.slice none 0 0))
    rw [← hWF] at hbF z0 z1 z2 z3
    unfold put4 at hWF
    rw [← hWF]
    have HBF := Lib.hid hbF
    clear hbF hWF x0 x1 x2 y0 y1 y2 y3 f0 f1 f2 f3
    refine bodyPost_ret (v := .tuple #[.agg #[.int .i64 0, .int .i64 0, .int .i64 0, .slice none 0 0], .int .i64 1]) ?_ rfl ⟨none, 0, by rw [HR.out]; rfl, by rw [HR.out]; exact Bys.nil_ _, HBF.out⟩
    simp only [results, hres]
    go_simp
  | true =>
    have HM := Lib.hid (HC.out true hm.symm _ hb1)
    have HL := Lib.hid (fun W hW => HL.out _ (lastE_may hm).symm W hW)
    obtain ⟨p0, p1, p2, p3, p4, p5, p6, p7, p8⟩ := mayE_parts hm
    have hr' : r = if i < 1 ∨ (endE l).1 < i then (ze, 8) else if i ≤ l.base then (ze, 22) else (l.l.getD (i - l.base - 1).toNat ze, 0) := by rw [hr]; unfold atE; rw [hm, if_neg (by simp)]
    clear hr
    obtain ⟨e1, e2, hee⟩ : ∃ e1 e2, endE l = (e1, e2) := ⟨_, _, rfl⟩
    rw [hee] at p5 p6 p7 p8 hr' HL
    simp only at p5 p6 p7 p8 hr' HL
    have hcase : (i < 1 ∧ r = (ze, 8)) ∨ (1 ≤ i ∧ e1 < i ∧ r = (ze, 8)) ∨ (1 ≤ i ∧ i ≤ e1 ∧ i ≤ l.base ∧ r = (ze, 22)) ∨ (1 ≤ i ∧ i ≤ e1 ∧ l.base < i ∧ r = (l.l.getD (i - l.base - 1).toNat ze, 0)) := by
      by_cases c1 : i < 1
      · left; exact ⟨c1, by rw [hr', if_pos (Or.inl c1)]⟩
      · by_cases c2 : e1 < i
        · right; left; exact ⟨by omega, c2, by rw [hr', if_pos (Or.inr c2)]⟩
        · rw [if_neg (by omega)] at hr'
          by_cases c3 : i ≤ l.base
          · right; right; left; exact ⟨by omega, by omega, c3, by rw [hr', if_pos c3]⟩
          · right; right; right; exact ⟨by omega, by omega, by omega, by rw [hr', if_neg c3]⟩
    clear hr' hW1 hg hg2 hb1 hq hq2 hsz hcells hres2 hfz hee
    have HI := Lib.hid (And.intro hi (And.intro ht hk))
    rcases hcase with ⟨c1, hr⟩ | ⟨c1, c2, hr⟩ | ⟨c1, c2, c3, hr⟩ | ⟨c1, c2, c3, hr⟩
    case inr.inr.inr =>
      obtain ⟨k, hkk⟩ : ∃ k : Nat, i = l.base + 1 + (k : Int) := ⟨(i - l.base - 1).toNat, by omega⟩
      have hkl : k < l.l.length := by omega
      obtain ⟨bk, off, Ad, cd, rfl, hbb, hok, q0, q1, q2, q3, hdat⟩ := h.at_ k hkl
      have hr2 : r = (l.l[k], 0) := by
        rw [hr, show (i - l.base - 1).toNat = k from by omega, List.getD, List.getElem?_eq_getElem hkl]
        rfl
      obtain ⟨e, he⟩ : ∃ e, e = l.l[k] := ⟨_, rfl⟩
      rw [← he] at q0 q1 q2 q3 hr2 hdat
      obtain ⟨m, hml⟩ : ∃ m, m = e.data.length := ⟨_, rfl⟩
      rw [← hml] at q3 hdat
      have HR := Lib.hid (And.intro hr2 hml)
      have HQ := Lib.hid (And.intro q0 (And.intro q1 (And.intro q2 (And.intro q3 (And.intro hbb hdat)))))
      have s0 : i - l.base - 1 = (k : Int) := by omega
      have s2 : (k : Int) < (n : Int) := by omega
      have s3 : (n : Int) ≤ (c : Int) := by omega
      have z1 : ¬ i < 1 := by omega
      have z2 : ¬ i ≤ l.base := by omega
      have b1 : i ≤ 1099511627776 := by omega
      clear h hn hcm hm HC hr hr2 hkk hkl he hml q0 q1 q2 q3 hbb hok hdat p5 p6 p7 p8 hnc hi ht hk
      go_enter Tryd.func16, Tryd.ntmps16
      go_upto_region 1 with fail
      rw [← HW.out.1, ← HW.out.2.1, ← HW.out.2.2]
      go_wp2_with (first
        | (go_at_call 18; go_must (refine HM.out.mono ?_; rintro y w1 ⟨rfl, hb1⟩; obtain ⟨⟨x0, x1, x2⟩, -⟩ := HCL.out w1 hb1; have HB1 := Lib.hid hb1; have HB := Lib.hid (HE.out.1.trans (hb1.mono HE.out.1.size)); clear hb1))
        | (go_at_call 12; go_must (refine (HL.out _ HB.out).mono ?_; rintro y w2 ⟨rfl, hb2⟩; have HB3 := Lib.hid (HB1.out.trans (hb2.mono HB1.out.size)); obtain ⟨⟨x0, x1, x2⟩, ⟨y0, y1, y2, y3⟩, ⟨f0, f1, f2, f3⟩⟩ := HCL.out w2 HB3.out; have HS := Lib.hid (HRS.out w2 HB3.out); have HB2 := Lib.hid (HB.out.trans (hb2.mono HB.out.size)); have p0 := (HB2.out.cell (p := ⟨bk, off + k * 4, none⟩) HQ.out.2.2.2.2.1).trans HQ.out.1; have p1 := (HB2.out.cell (p := ⟨bk, off + k * 4 + 1, none⟩) HQ.out.2.2.2.2.1).trans HQ.out.2.1; have p2 := (HB2.out.cell (p := ⟨bk, off + k * 4 + 2, none⟩) HQ.out.2.2.2.2.1).trans HQ.out.2.2.1; have p3 := (HB2.out.cell (p := ⟨bk, off + k * 4 + 3, none⟩) HQ.out.2.2.2.2.1).trans HQ.out.2.2.2.1; clear hb2)))
      obtain ⟨WF, hWF⟩ : ∃ W, W = put4 w2 g2 (.int .i64 e.index) (.int .i64 e.term) (.int .i64 e.kind) (.slice Ad m cd) := ⟨_, rfl⟩
      have hbF := put4_below (b := g2) (v0 := .int .i64 e.index) (v1 := .int .i64 e.term) (v2 := .int .i64 e.kind) (v3 := .slice Ad m cd) HB2.out HE.out.2.1
      obtain ⟨z0, z1, z2, z3⟩ := cells4 (put4_own HS.out (.int .i64 e.index) (.int .i64 e.term) (.int .i64 e.kind) (.slice Ad m cd))
      rw [← hWF] at hbF z0 z1 z2 z3
      unfold put4 at hWF
      rw [← hWF]
      have HBF := Lib.hid hbF
      clear hbF hWF x0 x1 x2 y0 y1 y2 y3 f0 f1 f2 f3 p0 p1 p2 p3
      refine bodyPost_ret (v := .tuple #[.agg #[.int .i64 e.index, .int .i64 e.term, .int .i64 e.kind, .slice Ad m cd], .int .i64 0]) ?_ rfl ⟨Ad, cd, by rw [HR.out.1, ← HR.out.2]; rfl, by rw [HR.out.1, ← HR.out.2]; exact HQ.out.2.2.2.2.2.below HBF.out, HBF.out⟩
      simp only [results, hres]
      go_simp
    all_goals
      obtain ⟨code, hcode⟩ : ∃ code, r = (ze, code) := ⟨_, hr⟩
      have HR := Lib.hid hr
      clear h hn hcm hm HC hr p5 p6 p7 p8 hnc hi ht hk hcode code
      go_enter Tryd.func16, Tryd.ntmps16
      go_upto_region 1 with fail
      rw [← HW.out.1, ← HW.out.2.1, ← HW.out.2.2]
      go_wp2_with (first
        | (go_at_call 18; go_must (refine HM.out.mono ?_; rintro y w1 ⟨rfl, hb1⟩; obtain ⟨⟨x0, x1, x2⟩, -⟩ := HCL.out w1 hb1; have HB1 := Lib.hid hb1; have HB0 := Lib.hid (HE.out.1.trans (hb1.mono HE.out.1.size)); clear hb1))
        | (go_at_call 12; go_must (refine (HL.out _ HB0.out).mono ?_; rintro y w2 ⟨rfl, hb2⟩; have HB3 := Lib.hid (HB1.out.trans (hb2.mono HB1.out.size)); obtain ⟨⟨x0, x1, x2⟩, ⟨y0, y1, y2, y3⟩, ⟨f0, f1, f2, f3⟩⟩ := HCL.out w2 HB3.out; have HS := Lib.hid (HRS.out w2 HB3.out); have HB := Lib.hid (HB0.out.trans (hb2.mono HB0.out.size)); clear hb2)))
      obtain ⟨WF, hWF⟩ : ∃ W, W = put4 w2 g2 (.int .i64 0) (.int .i64 0) (.int .i64 0) (.slice none 0 0) := ⟨_, rfl⟩
      have hbF := put4_below (b := g2) (v0 := .int .i64 0) (v1 := .int .i64 0) (v2 := .int .i64 0) (v3 := .slice none 0 0) HB.out HE.out.2.1
      obtain ⟨z0, z1, z2, z3⟩ := cells4 (put4_own HS.out (.int .i64 0) (.int .i64 0) (.int .i64 0) (.slice none 0 0))
      rw [← hWF] at hbF z0 z1 z2 z3
      unfold put4 at hWF
      rw [← hWF]
      have HBF := Lib.hid hbF
      clear hbF hWF x0 x1 x2 y0 y1 y2 y3 f0 f1 f2 f3
      refine bodyPost_ret (v := .tuple #[.agg #[.int .i64 0, .int .i64 0, .int .i64 0, .slice none 0 0], .int .i64 (r.2 : Int)]) ?_ rfl ⟨none, 0, by rw [show r.1 = ze by rw [HR.out]]; rfl, by rw [show r.1 = ze by rw [HR.out]]; exact Bys.nil_ _, HBF.out⟩
      simp only [results, hres]
      go_simp
      try rw [HR.out]
      try rfl

theorem ok_snoc {l : List En} {x : En} (h : ∀ e ∈ l, e.ok) (hx : x.ok) : ∀ e ∈ l ++ [x], e.ok := fun e he => by
  rcases List.mem_append.1 he with h1 | h1
  · exact h e h1
  · rw [List.mem_singleton.1 h1]; exact hx

theorem from_take {xs : List En} {j : Nat} {most : Int} (hj : j ≤ xs.length) (hm : j = 0 ∨ (j : Int) ≤ most) (hx : j = xs.length ∨ most ≤ (j : Int)) : xs.take j = xs.take most.toNat := by
  rcases hx with rfl | hx
  · rw [List.take_of_length_le (Nat.le_refl _)]
    rcases hm with h0 | h0
    · rw [List.eq_nil_of_length_eq_zero h0]; simp
    · rw [List.take_of_length_le (by omega)]
  · rcases hm with rfl | hm
    · rw [show most.toNat = 0 from by omega]
    · rw [show most.toNat = j from by omega]

set_option maxHeartbeats 8000000 in
theorem From_any (l : Lg) (A : Option Addr) (n c : Nat) (i most : Int) (w : World) (h : Ents w (.slice A n c) l.l) (hi : inI l.base) (ht : inI l.term) (hk : inI i) (hmo : inI most) (r : List En) (hr : r = fromE l i most) :
    Calls Tryd.prog 27 #[.agg #[.int .i64 l.base, .int .i64 l.term, .slice A n c], .int .i64 i, .int .i64 most] w fun y w' => ∃ A1 c1, y = .returned (.slice A1 r.length c1) ∧ Ents w' (.slice A1 r.length c1) r ∧ Below w.heap.size w w' := by
  obtain ⟨hn, hnc, hcm⟩ := h.len_
  have HC := Lib.hid fun b (hb : b = mayE l) W (hW : Below w.heap.size w W) => May_any l A n c W (h.below hW) hi ht b hb
  obtain ⟨e1, e2, hee⟩ : ∃ e1 e2, lastE l = (e1, e2) := ⟨_, _, rfl⟩
  have HL := Lib.hid fun W (hW : Below w.heap.size w W) => Last_any l A n c W (h.below hW) hi ht (e1, e2) hee.symm
  obtain ⟨W1, g, hW1, hg, hb1, hq, hsz⟩ := one_box w (.cells #[.int .i64 l.base, .int .i64 l.term, .slice A n c] 24)
  have HW := Lib.hid (And.intro hW1 hg)
  have HE := Lib.hid (And.intro hb1 (And.intro hq hsz))
  have hcells : ∀ W, Below W1.heap.size W1 W → W.cell? ⟨g, 0, none⟩ = some (.int .i64 l.base) ∧ W.cell? ⟨g, 1, none⟩ = some (.int .i64 l.term) ∧ W.cell? ⟨g, 2, none⟩ = some (.slice A n c) := fun W hW => cells3 ((hW.block g (obj_lt hq)).trans hq)
  have HCL := Lib.hid hcells
  obtain ⟨x0, x1, x2⟩ := hcells W1 (Below.refl _ _)
  simp only at HL
  by_cases hno : mayE l = false ∨ i ≤ l.base
  · have hr0 : r = [] := by rw [hr]; unfold fromE; rw [if_pos hno]
    subst hr0
    obtain ⟨b, hb⟩ : ∃ b, b = mayE l := ⟨_, rfl⟩
    have HM := Lib.hid fun W hW => HC.out b hb W hW
    rw [← hb] at hno
    have hno' : b = false ∨ (b = true ∧ i ≤ l.base) := by
      cases b
      · exact Or.inl rfl
      · rcases hno with h | h
        · cases h
        · exact Or.inr ⟨rfl, h⟩
    clear h hn hnc hcm hr hb hno HC hee hW1 hg hb1 hq hsz hcells hi ht hk hmo
    rcases hno' with rfl | ⟨rfl, hle⟩
    all_goals
      go_enter Tryd.func27, Tryd.ntmps27
      go_upto_region 1 with fail
      rw [← HW.out.1, ← HW.out.2]
      go_wp2_with (first
        | (go_at_call 12; go_must (refine (HL.out _ HE.out.1).mono ?_; rintro y w1 ⟨rfl, hb1⟩; obtain ⟨x0, x1, x2⟩ := HCL.out w1 hb1; have HB1 := Lib.hid hb1; have HB := Lib.hid (HE.out.1.trans (hb1.mono HE.out.1.size)); clear hb1))
        | (go_at_call 18; go_must (refine (HM.out _ HB.out).mono ?_; rintro y w2 ⟨rfl, hb2⟩; obtain ⟨x0, x1, x2⟩ := HCL.out w2 (HB1.out.trans (hb2.mono HB1.out.size)); have HB2 := Lib.hid (HB.out.trans (hb2.mono HB.out.size)); clear hb2)))
      go_ret
      exact ⟨none, 0, rfl, Ents.nil_ _, HB2.out⟩
  · have hm : mayE l = true := by
      cases hx : mayE l
      · exact absurd (Or.inl hx) hno
      · rfl
    have hgt : l.base < i := by omega
    have HM := Lib.hid fun W hW => HC.out true hm.symm W hW
    obtain ⟨p0, p1, p2, p3, p4, p5, p6, p7, p8⟩ := mayE_parts hm
    rw [← lastE_may hm, hee] at p5 p6 p7 p8
    simp only at p5 p6 p7 p8
    obtain ⟨xs, hxs⟩ : ∃ xs, xs = l.l.drop (i - l.base - 1).toNat := ⟨_, rfl⟩
    have hr1 : r = xs.take most.toNat := by rw [hr, hxs]; unfold fromE; rw [if_neg hno]
    have hxl : xs.length = l.l.length - (i - l.base - 1).toNat := by rw [hxs, List.length_drop]
    obtain ⟨k0, hk0⟩ : ∃ k0 : Nat, i = l.base + 1 + (k0 : Int) := ⟨(i - l.base - 1).toNat, by omega⟩
    have hk0' : (i - l.base - 1).toNat = k0 := by omega
    rw [hk0'] at hxl hxs
    have HR := Lib.hid hr1
    have HX := Lib.hid (And.intro hxs (And.intro hxl (And.intro hn h)))
    have HI := Lib.hid (And.intro hi (And.intro ht (And.intro hk hmo)))
    have HK := Lib.hid hk0
    have HP := Lib.hid (And.intro p5 hgt)
    have z1 : ¬ i ≤ l.base := by omega
    obtain ⟨m1, m2⟩ := hmo
    obtain ⟨k1, k2⟩ := hk
    have s3 : (n : Int) ≤ (c : Int) := by omega
    clear h hn hcm hr hm HC hr1 hxs hxl hk0 hk0' hno hee hW1 hg hb1 hq hsz hcells hi ht hgt hnc p5
    go_enter Tryd.func27, Tryd.ntmps27
    go_upto_region 1 with fail
    rw [← HW.out.1, ← HW.out.2]
    go_wp2_with (first
      | (go_at_call 12; go_must (refine (HL.out _ HE.out.1).mono ?_; rintro y w1 ⟨rfl, hb1⟩; obtain ⟨x0, x1, x2⟩ := HCL.out w1 hb1; have HB1 := Lib.hid hb1; have HB := Lib.hid (HE.out.1.trans (hb1.mono HE.out.1.size)); clear hb1))
      | (go_at_call 18; go_must (refine (HM.out _ HB.out).mono ?_; rintro y w2 ⟨rfl, hb2⟩; have HB2 := Lib.hid (HB1.out.trans (hb2.mono HB1.out.size)); clear hb2 x0 x1 x2; obtain ⟨x0, x1, x2⟩ := HCL.out w2 HB2.out)))
    clear x0 x1 x2
    go_loopw [9, 10] (fun v ii wr => ∃ (j : Nat), j ≤ xs.length ∧ (j = 0 ∨ (j : Int) ≤ most) ∧ ii = .int .i64 (i + (j : Int)) ∧ OwnE wr W1.heap.size (fun _ => True) 44 v (xs.take j) ∧ Below W1.heap.size W1 wr) (fun _ ii _ => (e1 + 1 - intOf ii).toNat)
    case atStart => exact ⟨0, Nat.zero_le _, Or.inl rfl, by simp, OwnE.nil_ _ _ _ _, HB2.out⟩
    case round =>
      obtain ⟨j, hj, hjm, rfl, how, hbw⟩ := hrel
      have hjl : (xs.take j).length = j := by rw [List.length_take]; omega
      obtain ⟨Av, cv, rfl, hvc, hvm⟩ := how.form hjl
      have HO := Lib.hid (And.intro how (And.intro hbw (And.intro hjm hjl)))
      obtain ⟨x0, x1, x2⟩ := HCL.out wr hbw
      have hxl := HX.out.2.1
      have hnl := HX.out.2.2.1
      have hi0 := HK.out
      have he1 := HP.out.1
      have hij : i + (j : Int) ≤ 9223372036854775807 := by omega
      clear how hbw hjl hvc hvm
      by_cases hgo : j < xs.length ∧ (j : Int) < most
      · obtain ⟨hgo1, hgo2⟩ := hgo
        have z2 : i + (j : Int) ≤ e1 := by omega
        have hkl : k0 + j < l.l.length := by omega
        obtain ⟨bk, off, Ad, cd, rfl, hbb, hok, q0, q1, q2, q3, hdat⟩ := HX.out.2.2.2.at_ (k0 + j) hkl
        have hxe : xs.take (j + 1) = xs.take j ++ [l.l[k0 + j]] := by
          rw [List.take_succ_eq_append_getElem hgo1]
          congr 2
          simp only [HX.out.1, List.getElem_drop]
        obtain ⟨e, he⟩ : ∃ e, e = l.l[k0 + j] := ⟨_, rfl⟩
        rw [← he] at q0 q1 q2 q3 hdat hxe hok
        have hbw0 : Below w.heap.size w wr := HE.out.1.trans (HO.out.2.1.mono HE.out.1.size)
        obtain ⟨kk, hkk⟩ : ∃ kk : Nat, kk = k0 + j := ⟨_, rfl⟩
        rw [← hkk] at q0 q1 q2 q3
        have y0 := (hbw0.cell (p := ⟨bk, off + kk * 4, none⟩) hbb).trans q0
        have y1 := (hbw0.cell (p := ⟨bk, off + kk * 4 + 1, none⟩) hbb).trans q1
        have y2 := (hbw0.cell (p := ⟨bk, off + kk * 4 + 2, none⟩) hbb).trans q2
        have y3 := (hbw0.cell (p := ⟨bk, off + kk * 4 + 3, none⟩) hbb).trans q3
        have s0 : i + (j : Int) - l.base - 1 = (kk : Int) := by omega
        have s2 : (kk : Int) < (n : Int) := by omega
        have HD := Lib.hid (And.intro hdat (And.intro hxe hok))
        clear hkl hbb hok q0 q1 q2 q3 hdat he hxe hkk hxl hnl hi0 he1 hbw0
        go_wp2_with (at_builtin; go_must (refine wpList_pushE (B := W1.heap.size) (Q := fun _ => True) (t := 44) (l := xs.take j) (HO.out.1.more (below_alloc wr _)) rfl _ _ 22 Tryd.underlying22 info_ref rfl rfl wr.heap.size e Ad cd rfl (heap_alloc_new wr _) ?c1 ?c2 ?c3 ?c4))
        case c1 =>
          have hbw0 : Below w.heap.size w wr := HE.out.1.trans (HO.out.2.1.mono HE.out.1.size)
          have hb2 := hbw0.alloc hbw0.size (.cells #[.int .i64 e.index, .int .i64 e.term, .int .i64 e.kind, .slice Ad e.data.length cd] 44)
          refine (SlT.kept HD.out.1 fun k hk _ => hb2.block k hk).mono fun k hk => ⟨trivial, Nat.lt_of_lt_of_le hk hb2.size, fun e => ?_⟩
          have h1 := (HO.out.1.lt k e).1
          have h2 := HE.out.1.size
          omega
        case c2 => have h1 := HO.out.2.2.2; have h2 := HX.out.2.1; omega
        case c3 => have h1 := HO.out.2.1.size; simp only [World.size_alloc]; omega
        case c4 =>
          intro v' w' ho' hg' _
          have hb3 : Below W1.heap.size W1 w' := (HO.out.2.1.alloc HO.out.2.1.size _).grown hg' (by have h1 := HO.out.2.1.size; simp only [World.size_alloc]; omega) fun k hk => (HO.out.1.lt k hk).1
          rw [← HD.out.2.1] at ho'
          have HF := Lib.hid (And.intro ho' hb3)
          clear ho' hg' hb3
          go_wp2_with fail
          go_roundw
          case rel => exact ⟨j + 1, by omega, Or.inr (by omega), by go_num, HF.out.1, HF.out.2⟩
          case measure => simp [intOf]; omega
      · have hex : j = xs.length ∨ most ≤ (j : Int) := by omega
        have HT := Lib.hid (HR.out.trans (from_take hj hjm hex).symm)
        have hend : (e1 < i + (j : Int)) ∨ (i + (j : Int) ≤ e1 ∧ ¬ (j : Int) < most) := by omega
        clear hgo hex hxl hnl hi0 he1
        rcases hend with h1 | ⟨h1, h2⟩
        all_goals
          go_wp2_with fail
          go_ret
          rw [HT.out]
          refine ⟨Av, cv, by rw [HO.out.2.2.2]; rfl, ?_, HE.out.1.trans (HO.out.2.1.mono HE.out.1.size)⟩
          rw [HO.out.2.2.2]
          refine ⟨HO.out.1.ents, fun x hx => HX.out.2.2.2.2 x ?_⟩
          have h3 := List.mem_of_mem_take hx
          rw [HX.out.1] at h3
          exact List.mem_of_mem_drop h3

theorem termE_small (l : Lg) (i : Int) : (termE l i).2 = 0 ∨ (termE l i).2 = 1 ∨ (termE l i).2 = 8 ∨ (termE l i).2 = 22 := by
  unfold termE
  split
  · simp
  · split
    · simp
    · split
      · simp
      · split <;> simp
/-- Behind a store into a result of a log's three cells. -/
theorem log_result {W : World} {g2 t : Nat} {a0 a1 a2 b0 b1 b2 : Value} (h : W.heap[g2]? = some (.cells #[a0, a1, a2] t (0, 0))) {B : Nat} {w : World} (hb : Below B w W) (hB : B ≤ g2) :
    ∃ WF, put3 W g2 b0 b1 b2 = WF ∧ WF.cell? ⟨g2, 0, none⟩ = some b0 ∧ WF.cell? ⟨g2, 1, none⟩ = some b1 ∧ WF.cell? ⟨g2, 2, none⟩ = some b2 ∧ Below B w WF := by
  obtain ⟨z0, z1, z2⟩ := cells3 (put3_own h b0 b1 b2)
  exact ⟨_, rfl, z0, z1, z2, put3_below hb hB⟩

set_option maxHeartbeats 8000000 in
theorem Compact_any (l : Lg) (A : Option Addr) (n c : Nat) (i : Int) (w : World) (h : Ents w (.slice A n c) l.l) (hi : inI l.base) (ht : inI l.term) (hk : inI i) (r : Lg × Nat) (hr : r = compactE l i) :
    Calls Tryd.prog 29 #[.agg #[.int .i64 l.base, .int .i64 l.term, .slice A n c], .int .i64 i] w fun y w' => ∃ A1 c1, y = .returned (.tuple #[.agg #[.int .i64 r.1.base, .int .i64 r.1.term, .slice A1 r.1.l.length c1], .int .i64 (r.2 : Int)]) ∧ Ents w' (.slice A1 r.1.l.length c1) r.1.l ∧ Below w.heap.size w w' := by
  obtain ⟨hn, hnc, hcm⟩ := h.len_
  obtain ⟨t1, t2, htt⟩ : ∃ t1 t2, termE l i = (t1, t2) := ⟨_, _, rfl⟩
  have HT := Lib.hid fun W (hW : Below w.heap.size w W) => Term_any l A n c i W (h.below hW) hi ht hk (t1, t2) htt.symm
  obtain ⟨W1, g, g2, hW1, hg, hg2, hb1, hq, hq2, hsz⟩ := two_box w (.cells #[.int .i64 l.base, .int .i64 l.term, .slice A n c] 24) (.cells #[.int .i64 0, .int .i64 0, .slice none 0 0] 24)
  have HW := Lib.hid (And.intro hW1 (And.intro hg hg2))
  have HE := Lib.hid (And.intro hb1 (And.intro (show w.heap.size ≤ g2 by omega) hsz))
  have hcells : ∀ W, Below W1.heap.size W1 W → W.cell? ⟨g, 0, none⟩ = some (.int .i64 l.base) ∧ W.cell? ⟨g, 1, none⟩ = some (.int .i64 l.term) ∧ W.cell? ⟨g, 2, none⟩ = some (.slice A n c) := fun W hW => cells3 ((hW.block g (obj_lt hq)).trans hq)
  have hres2 : ∀ W, Below W1.heap.size W1 W → W.heap[g2]? = some (.cells #[.int .i64 0, .int .i64 0, .slice none 0 0] 24 (0, 0)) := fun W hW => (hW.block g2 (obj_lt hq2)).trans hq2
  have hfz : ∀ W, Below W1.heap.size W1 W → W.frozen? ⟨g2, 0, none⟩ = false ∧ W.frozen? ⟨g2, 1, none⟩ = false ∧ W.frozen? ⟨g2, 2, none⟩ = false := fun W hW => ⟨frozen_own (hres2 W hW) _, frozen_own (hres2 W hW) _, frozen_own (hres2 W hW) _⟩
  have HCL := Lib.hid (fun W hW => And.intro (hcells W hW) (And.intro (cells3 (hres2 W hW)) (hfz W hW)))
  have HRS := Lib.hid hres2
  obtain ⟨x0, x1, x2⟩ := hcells W1 (Below.refl _ _)
  have hres : Tryd.f29.results = #[.cell 4 24, .tmp 5] := by kernel_rfl
  simp only at HT
  by_cases h0 : t2 = 0
  · subst h0
    obtain ⟨b1, b2, b3, b4⟩ := termE_bound (l := l) (i := i) (by rw [htt])
    obtain ⟨b5, b6, -⟩ := mayE_parts b1
    obtain ⟨k, hkk⟩ : ∃ k : Nat, i - l.base = (k : Int) := ⟨(i - l.base).toNat, by omega⟩
    have hr1 : r = (⟨i, t1, l.l.drop k⟩, 0) := by
      rw [hr]; unfold compactE
      rw [htt, if_pos rfl, show (i - l.base).toNat = k from by omega]
    have hkn : k ≤ n := by omega
    have HD := Lib.hid fun W (hW : Below w.heap.size w W) => (h.below hW).drop_ hkn
    have HR := Lib.hid hr1
    have HL := Lib.hid (show (l.l.drop k).length = n - k by rw [List.length_drop]; omega)
    have s1 : (k : Int) ≤ (n : Int) := by omega
    have s2 : (n : Int) ≤ (c : Int) := by omega
    have s3 : (k : Int) ≤ (c : Int) := by omega
    have hp0 := (mayE_parts b1).2.2.2.2.1
    have s4 : i ≤ 1099511627776 + 4096 := by omega
    clear h hn hr hr1 hW1 hg hg2 hb1 hq hq2 hsz hcells hres2 hfz htt b1 b2 b3 hi ht hk hp0
    by_cases hck : c = k
    · obtain rfl : k = c := hck.symm
      obtain rfl : k = n := by omega
      have HD1 : Hid (∀ W, Below w.heap.size w W → Ents W (.slice A 0 0) (l.l.drop k)) := Lib.hid fun W hW => by have h1 := HD.out W hW; rw [if_pos rfl, Nat.sub_self] at h1; exact h1
      clear HD
      clear hkn hnc s1 s2 s3
      go_enter Tryd.func29, Tryd.ntmps29
      go_upto_region 1 with fail
      rw [← HW.out.1, ← HW.out.2.1, ← HW.out.2.2]
      go_wp2_with (go_at_call 14; go_must (refine (HT.out _ HE.out.1).mono ?_; rintro y w1 ⟨rfl, hb1⟩; obtain ⟨⟨x0, x1, x2⟩, ⟨y0, y1, y2⟩, ⟨f0, f1, f2⟩⟩ := HCL.out w1 hb1; have HS := Lib.hid (HRS.out w1 hb1); have HB := Lib.hid (HE.out.1.trans (hb1.mono HE.out.1.size)); clear hb1))
      obtain ⟨WF, hWF, z0, z1, z2, hbF⟩ := log_result (b0 := .int .i64 i) (b1 := .int .i64 t1) (b2 := .slice A 0 0) HS.out HB.out HE.out.2.1
      unfold put3 at hWF
      rw [hWF]
      have HBF := Lib.hid hbF
      clear hbF hWF x0 x1 x2 y0 y1 y2 f0 f1 f2
      refine bodyPost_ret (v := .tuple #[.agg #[.int .i64 i, .int .i64 t1, .slice A 0 0], .int .i64 0]) ?_ rfl ⟨A, 0, by rw [HR.out, HL.out, Nat.sub_self]; rfl, by rw [HR.out, HL.out, Nat.sub_self]; exact HD1.out _ HBF.out, HBF.out⟩
      simp only [results, hres]
      go_simp
    · obtain ⟨A1, hA1⟩ : ∃ A1, A1 = Option.map (fun x : Addr => x.add (k * 4)) A := ⟨_, rfl⟩
      have HD1 : Hid (∀ W, Below w.heap.size w W → Ents W (.slice A1 (n - k) (c - k)) (l.l.drop k)) := Lib.hid fun W hW => by have h1 := HD.out W hW; rw [if_neg hck, ← hA1] at h1; exact h1
      clear HD
      have HA1 := Lib.hid hA1
      clear hkn hnc hA1
      go_enter Tryd.func29, Tryd.ntmps29
      go_upto_region 1 with fail
      rw [← HW.out.1, ← HW.out.2.1, ← HW.out.2.2]
      go_wp2_with (go_at_call 14; go_must (refine (HT.out _ HE.out.1).mono ?_; rintro y w1 ⟨rfl, hb1⟩; obtain ⟨⟨x0, x1, x2⟩, ⟨y0, y1, y2⟩, ⟨f0, f1, f2⟩⟩ := HCL.out w1 hb1; have HS := Lib.hid (HRS.out w1 hb1); have HB := Lib.hid (HE.out.1.trans (hb1.mono HE.out.1.size)); clear hb1))
      rw [← HA1.out]
      obtain ⟨WF, hWF, z0, z1, z2, hbF⟩ := log_result (b0 := .int .i64 i) (b1 := .int .i64 t1) (b2 := .slice A1 (n - k) (c - k)) HS.out HB.out HE.out.2.1
      unfold put3 at hWF
      rw [hWF]
      have HBF := Lib.hid hbF
      clear hbF hWF x0 x1 x2 y0 y1 y2 f0 f1 f2
      refine bodyPost_ret (v := .tuple #[.agg #[.int .i64 i, .int .i64 t1, .slice A1 (n - k) (c - k)], .int .i64 0]) ?_ rfl ⟨A1, c - k, by rw [HR.out, HL.out]; rfl, by rw [HR.out, HL.out]; exact HD1.out _ HBF.out, HBF.out⟩
      simp only [results, hres]
      go_simp
  · have HR := Lib.hid (show r = (zl, t2) by rw [hr]; unfold compactE; rw [htt, if_neg h0])
    have s1 : ¬ (t2 : Int) = 0 := by omega
    have s2 : (t2 : Int) < 100 := by have := termE_small l i; rw [htt] at this; simp only at this; omega
    clear h hn hr hW1 hg hg2 hb1 hq hq2 hsz hcells hres2 hfz htt hi ht hk h0 hnc
    go_enter Tryd.func29, Tryd.ntmps29
    go_upto_region 1 with fail
    rw [← HW.out.1, ← HW.out.2.1, ← HW.out.2.2]
    go_wp2_with (go_at_call 14; go_must (refine (HT.out _ HE.out.1).mono ?_; rintro y w1 ⟨rfl, hb1⟩; obtain ⟨⟨x0, x1, x2⟩, ⟨y0, y1, y2⟩, ⟨f0, f1, f2⟩⟩ := HCL.out w1 hb1; have HS := Lib.hid (HRS.out w1 hb1); have HB := Lib.hid (HE.out.1.trans (hb1.mono HE.out.1.size)); clear hb1))
    obtain ⟨WF, hWF, z0, z1, z2, hbF⟩ := log_result (b0 := .int .i64 0) (b1 := .int .i64 0) (b2 := .slice none 0 0) HS.out HB.out HE.out.2.1
    unfold put3 at hWF
    rw [hWF]
    have HBF := Lib.hid hbF
    clear hbF hWF x0 x1 x2 y0 y1 y2 f0 f1 f2
    refine bodyPost_ret (v := .tuple #[.agg #[.int .i64 0, .int .i64 0, .slice none 0 0], .int .i64 (t2 : Int)]) ?_ rfl ⟨none, 0, by rw [HR.out]; rfl, by rw [HR.out]; exact Ents.nil_ _, HBF.out⟩
    simp only [results, hres]
    go_simp


end Go.Proofs.YtlngcfaadfkbnaaDoor.pk
