/-
  The document's own words of a log: Last, Term, At, From, Compact, Newer.
-/
import Derived.Test.YtlngcfaadfkbnaaRefL
namespace Go.Proofs.Ytlngcfaadfkbnaa.pk
open Go Go.RowKit
set_option maxRecDepth 100000

theorem ret_bool {a b : Bool} (h : a = b) : Ending.returned (.bool a) = Ending.returned (.bool b) := by rw [h]
theorem endE_nil {l : Lg} (h : l.l.length = 0) : endE l = (l.base, l.term) := by
  have : l.l = [] := List.eq_nil_of_length_eq_zero h
  unfold endE; rw [this]; rfl
theorem endE_more {l : Lg} {k : Nat} (h : l.l.length = k + 1) (hk : k < l.l.length) : endE l = (l.l[k].index, l.l[k].term) := by
  unfold endE
  rw [List.getLast?_eq_getElem?, h, Nat.add_sub_cancel, List.getElem?_eq_getElem hk]
theorem lastE_may {l : Lg} (h : mayE l = true) : lastE l = endE l := by unfold lastE; rw [if_pos h]
theorem lastE_not {l : Lg} (h : mayE l = false) : lastE l = (0, 0) := by unfold lastE; rw [h]; rfl
/-- The parts of a log that may be. -/
theorem mayE_parts {l : Lg} (h : mayE l = true) : 0 ≤ l.base ∧ l.base ≤ 1099511627776 ∧ 0 ≤ l.term ∧ l.term ≤ 1099511627776 ∧ l.l.length ≤ 4096 ∧ (endE l).1 = l.base + l.l.length ∧ (endE l).1 ≤ 1099511627776 ∧ 0 ≤ (endE l).2 ∧ (endE l).2 ≤ 1099511627776 := by
  have hh := headE_iff.1 (mayE_iff.1 h).1
  have hb := (mayE_iff.1 h).2
  have he := endE_index h
  refine ⟨hh.1, hh.2.1, hh.2.2.1, hh.2.2.2.1, hh.2.2.2.2.2, he, ?_⟩
  cases hn : l.l.length with
  | zero => rw [endE_nil hn]; simp only; omega
  | succ k =>
    have hk : k < l.l.length := by omega
    have := behindE_at hb k hk
    rw [endE_more hn hk]
    simp only
    omega

set_option maxHeartbeats 4000000 in
theorem Last_any (l : Lg) (A : Option Addr) (n c : Nat) (w : World) (h : Ents w (.slice A n c) l.l) (hi : inI l.base) (ht : inI l.term) (r : Int × Int) (hr : r = lastE l) :
    Calls Try.prog 23 #[.agg #[.int .i64 l.base, .int .i64 l.term, .slice A n c]] w fun y w' => y = .returned (.tuple #[.int .i64 r.1, .int .i64 r.2]) ∧ Below w.heap.size w w' := by
  obtain ⟨hn, hnc, hcm⟩ := h.len_
  have HA := Lib.hid (below_alloc w)
  have HC := Lib.hid fun b (hb : b = mayE l) W (hW : Below w.heap.size w W) => May_any l A n c W (h.below hW) hi ht b hb
  cases hm : mayE l with
  | false =>
    have HM := HC.out false hm.symm _ (HA.out (.cells #[.int .i64 l.base, .int .i64 l.term, .slice A n c] 24))
    have HR := Lib.hid (hr.trans (lastE_not hm))
    clear h hn hnc hcm hr hm HC
    go_enter Try.func23, Try.ntmps23
    go_wp2_with (go_at_call 6; go_must (refine HM.mono ?_; rintro y w1 ⟨rfl, hb1⟩; have HB := Lib.hid ((HA.out _).trans (hb1.mono (HA.out _).size)); clear hb1))
    go_ret2
    exact ⟨by rw [HR.out]; rfl, HB.out⟩
  | true =>
    have HM := Lib.hid (HC.out true hm.symm _ (HA.out (.cells #[.int .i64 l.base, .int .i64 l.term, .slice A n c] 24)))
    have hp := mayE_parts hm
    have HR := Lib.hid (hr.trans (lastE_may hm))
    have hq := heap_alloc_new w (.cells #[.int .i64 l.base, .int .i64 l.term, .slice A n c] 24)
    have hb := HA.out (.cells #[.int .i64 l.base, .int .i64 l.term, .slice A n c] 24)
    have hcells : ∀ W, Below (w.heap.size + 1) (w.alloc (.cells #[.int .i64 l.base, .int .i64 l.term, .slice A n c] 24)) W → W.cell? ⟨w.heap.size, 0, none⟩ = some (.int .i64 l.base) ∧ W.cell? ⟨w.heap.size, 1, none⟩ = some (.int .i64 l.term) ∧ W.cell? ⟨w.heap.size, 2, none⟩ = some (.slice A n c) := by
      intro W hW
      have e := (hW.block w.heap.size (by omega)).trans hq
      refine ⟨?_, ?_, ?_⟩ <;> (rw [cell_of_row W w.heap.size _ _ _ (0, 0) e]; rfl)
    have HCL := Lib.hid hcells
    have hsz : (w.alloc (.cells #[.int .i64 l.base, .int .i64 l.term, .slice A n c] 24)).heap.size = w.heap.size + 1 := World.size_alloc _ _
    have HSZ := Lib.hid hsz
    by_cases h0 : n = 0
    · subst h0
      have HE := Lib.hid (HR.out.trans (endE_nil hn.symm))
      clear h hn hnc hcm hr hm HC hp HR hq hb hcells hsz
      go_enter Try.func23, Try.ntmps23
      go_upto_region 3 with (go_at_call 6; go_must (refine HM.out.mono ?_; rintro y w1 ⟨rfl, hb1⟩; obtain ⟨x0, x1, x2⟩ := HCL.out w1 (by rw [HSZ.out] at hb1; exact hb1); have HB := Lib.hid ((HA.out _).trans (hb1.mono (HA.out _).size)); clear hb1))
      go_wp2_with fail
      go_quiet (fail)
      go_wp2_with fail
      go_ret2
      exact ⟨by rw [HE.out]; rfl, below_drawn HB.out _⟩
    · obtain ⟨k, hkn⟩ : ∃ k, n = k + 1 := ⟨n - 1, by omega⟩
      have hk : k < l.l.length := by omega
      have HE := Lib.hid (HR.out.trans (endE_more (hn.symm.trans hkn) hk))
      obtain ⟨bk, off, Ad, cd, rfl, hbb, hok, q0, q1, -⟩ := h.at_ k hk
      obtain ⟨e, he⟩ : ∃ e, e = l.l[k] := ⟨_, rfl⟩
      rw [← he] at q0 q1 HE
      have s1 : IntKind.i64.wrap ((n : Int) - 1) = (k : Int) := by rw [IntWalk.i64_in _ (by omega)]; omega
      have s2 : (k : Int) < (n : Int) := by omega
      have s3 : (n : Int) ≤ (c : Int) := by omega
      have s4 : ((n : Int) == 0) = false := beq_eq_false_iff_ne.2 (by omega)
      have HQ := Lib.hid (And.intro q0 (And.intro q1 hbb))
      clear h hn hcm hr hm HC hp HR hq hb hcells hsz hk q0 q1 hok he hbb h0 hkn hnc
      go_enter Try.func23, Try.ntmps23
      go_upto_region 3 with (go_at_call 6; go_must (refine HM.out.mono ?_; rintro y w1 ⟨rfl, hb1⟩; obtain ⟨x0, x1, x2⟩ := HCL.out w1 (by rw [HSZ.out] at hb1; exact hb1); have HB := Lib.hid ((HA.out _).trans (hb1.mono (HA.out _).size)); clear hb1; have p0 := (HB.out.cell (p := ⟨bk, off + k * 4, none⟩) HQ.out.2.2).trans HQ.out.1; have p1 := (HB.out.cell (p := ⟨bk, off + k * 4 + 1, none⟩) HQ.out.2.2).trans HQ.out.2.1))
      go_wp2_with fail
      go_quiet (fail)
      go_wp2_with fail
      go_ret2
      exact ⟨by rw [HE.out]; rfl, below_drawn HB.out _⟩




theorem ok_snoc {l : List En} {x : En} (h : ∀ e ∈ l, e.ok) (hx : x.ok) : ∀ e ∈ l ++ [x], e.ok := fun e he => by
  rcases List.mem_append.1 he with h1 | h1
  · exact h e h1
  · rw [List.mem_singleton.1 h1]; exact hx



set_option maxHeartbeats 4000000 in
theorem Newer_any (l : Lg) (A : Option Addr) (n c : Nat) (i t : Int) (w : World) (h : Ents w (.slice A n c) l.l) (hi : inI l.base) (ht : inI l.term) (r : Bool) (hr : r = newerE l i t) :
    Calls Try.prog 13 #[.agg #[.int .i64 l.base, .int .i64 l.term, .slice A n c], .int .i64 i, .int .i64 t] w fun y w' => y = .returned (.bool r) ∧ Below w.heap.size w w' := by
  have HC := Lib.hid fun b (hb : b = mayE l) W (hW : Below w.heap.size w W) => May_any l A n c W (h.below hW) hi ht b hb
  obtain ⟨e1, e2, hee⟩ : ∃ e1 e2, lastE l = (e1, e2) := ⟨_, _, rfl⟩
  have HL := Lib.hid fun W (hW : Below w.heap.size w W) => Last_any l A n c W (h.below hW) hi ht (e1, e2) hee.symm
  obtain ⟨W1, g, hW1, hg, hb1, hq, hsz⟩ := one_box w (.cells #[.int .i64 l.base, .int .i64 l.term, .slice A n c] 24)
  have HW := Lib.hid (And.intro hW1 hg)
  have HE := Lib.hid (And.intro hb1 (And.intro hq hsz))
  have hcells : ∀ W, Below W1.heap.size W1 W → W.cell? ⟨g, 0, none⟩ = some (.int .i64 l.base) ∧ W.cell? ⟨g, 1, none⟩ = some (.int .i64 l.term) ∧ W.cell? ⟨g, 2, none⟩ = some (.slice A n c) := fun W hW => cells3 ((hW.block g (obj_lt hq)).trans hq)
  have HCL := Lib.hid hcells
  obtain ⟨x0, x1, x2⟩ := hcells W1 (Below.refl _ _)
  simp only at HL
  obtain ⟨b, hb⟩ : ∃ b, b = mayE l := ⟨_, rfl⟩
  have HM := Lib.hid fun W hW => HC.out b hb W hW
  have hr1 : r = (b && decide (e2 < t ∨ t = e2 ∧ e1 ≤ i)) := by rw [hr, hb]; unfold newerE; rw [hee]
  have hcase : (b = false ∧ r = false) ∨ (b = true ∧ e2 < t ∧ r = true) ∨ (b = true ∧ ¬ e2 < t ∧ ¬ t = e2 ∧ r = false) ∨ (b = true ∧ t = e2 ∧ e1 ≤ i ∧ r = true) ∨ (b = true ∧ t = e2 ∧ ¬ e1 ≤ i ∧ r = false) := by
    cases b
    · exact Or.inl ⟨rfl, by rw [hr1]; rfl⟩
    · rw [Bool.true_and] at hr1
      by_cases c1 : e2 < t
      · exact Or.inr (Or.inl ⟨rfl, c1, by rw [hr1, decide_eq_true (by omega)]⟩)
      · by_cases c2 : t = e2
        · by_cases c3 : e1 ≤ i
          · exact Or.inr (Or.inr (Or.inr (Or.inl ⟨rfl, c2, c3, by rw [hr1, decide_eq_true (by omega)]⟩)))
          · exact Or.inr (Or.inr (Or.inr (Or.inr ⟨rfl, c2, c3, by rw [hr1, decide_eq_false (by omega)]⟩)))
        · exact Or.inr (Or.inr (Or.inl ⟨rfl, c1, c2, by rw [hr1, decide_eq_false (by omega)]⟩))
  clear h hr hr1 hb HC hee hW1 hg hb1 hq hsz hcells hi ht
  rcases hcase with ⟨rfl, hr⟩ | ⟨rfl, h1, hr⟩ | ⟨rfl, h1, h2, hr⟩ | ⟨rfl, rfl, h2, hr⟩ | ⟨rfl, rfl, h2, hr⟩
  all_goals
    have HR := Lib.hid hr
    clear hr
    go_enter Try.func13, Try.ntmps13
    go_upto_region 1 with fail
    rw [← HW.out.1, ← HW.out.2]
    go_wp2_with (first
      | (go_at_call 23; go_must (refine (HL.out _ HE.out.1).mono ?_; rintro y w1 ⟨rfl, hb1⟩; obtain ⟨x0, x1, x2⟩ := HCL.out w1 hb1; have HB1 := Lib.hid hb1; have HB := Lib.hid (HE.out.1.trans (hb1.mono HE.out.1.size)); clear hb1))
      | (go_at_call 6; go_must (refine (HM.out _ HB.out).mono ?_; rintro y w2 ⟨rfl, hb2⟩; have HB2 := Lib.hid (HB.out.trans (hb2.mono HB.out.size)); clear hb2)))
    go_ret
    exact ⟨ret_bool (by first | (rw [HR.out]; exact decide_eq_true (by omega)) | (rw [HR.out]; exact decide_eq_false (by omega)) | rw [HR.out]), HB2.out⟩

end Go.Proofs.Ytlngcfaadfkbnaa.pk
