/-
  The program's own entry: whether it may be.
-/
import Derived.Test.YtfblgkcipnkhaaaGreatDoorGivM
import Derived.Test.YtfblgkcipnkhaaaGreatDoorJf
namespace Go.Proofs.YtfblgkcipnkhaaaGreatDoor.pk
open Go Go.RowKit
set_option maxRecDepth 100000

def cntE (n : Int) : Bool := decide (1 ≤ n ∧ n ≤ 1099511627776)
def kndE (n : Int) : Bool := decide (0 ≤ n ∧ n ≤ 2)
theorem cntE_true {n : Int} : cntE n = true ↔ 1 ≤ n ∧ n ≤ 1099511627776 := by unfold cntE; exact decide_eq_true_iff
theorem cntE_false {n : Int} : cntE n = false ↔ ¬ (1 ≤ n ∧ n ≤ 1099511627776) := by unfold cntE; exact decide_eq_false_iff_not
theorem kndE_true {n : Int} : kndE n = true ↔ 0 ≤ n ∧ n ≤ 2 := by unfold kndE; exact decide_eq_true_iff
theorem kndE_false {n : Int} : kndE n = false ↔ ¬ (0 ≤ n ∧ n ≤ 2) := by unfold kndE; exact decide_eq_false_iff_not
theorem fitM_false {e : En} : fitM e = false ↔ ¬ (1 ≤ e.index ∧ e.index ≤ 1099511627776 ∧ 1 ≤ e.term ∧ e.term ≤ 1099511627776 ∧ 0 ≤ e.kind ∧ e.kind ≤ 2 ∧ e.data.length ≤ 4096) := by unfold fitM; exact decide_eq_false_iff_not

theorem counts_any (n : Int) (w : World) (b : Bool) (hb : b = cntE n) : Calls Tryz.prog 85 #[.int .i64 n] w fun y w' => y = .returned (.bool b) ∧ w = w' := by
  have HB := Lib.hid hb
  clear hb
  have hc : ¬ 1 ≤ n ∨ (1 ≤ n ∧ ¬ n ≤ 1099511627776) ∨ (1 ≤ n ∧ n ≤ 1099511627776) := by omega
  rcases hc with h1 | ⟨h1, h2⟩ | ⟨h1, h2⟩
  all_goals
    go_enter Tryz.func85, Tryz.ntmps85
    go_wp2_with fail
    go_ret
    exact ⟨ret_bool (by rw [HB.out]; first | exact (cntE_true.2 (by omega)).symm | exact (cntE_false.2 (by omega)).symm), rfl⟩
theorem isKind_any (n : Int) (w : World) (b : Bool) (hb : b = kndE n) : Calls Tryz.prog 86 #[.int .i64 n] w fun y w' => y = .returned (.bool b) ∧ w = w' := by
  have HB := Lib.hid hb
  clear hb
  have hc : ¬ 0 ≤ n ∨ (0 ≤ n ∧ ¬ n ≤ 2) ∨ (0 ≤ n ∧ n ≤ 2) := by omega
  rcases hc with h1 | ⟨h1, h2⟩ | ⟨h1, h2⟩
  all_goals
    go_enter Tryz.func86, Tryz.ntmps86
    go_wp2_with fail
    go_ret
    exact ⟨ret_bool (by rw [HB.out]; first | exact (kndE_true.2 (by omega)).symm | exact (kndE_false.2 (by omega)).symm), rfl⟩

set_option maxHeartbeats 4000000 in
theorem emay_any (e : En) (A : Option Addr) (n c : Nat) (w : World) (hn : n = e.data.length) (hn2 : n ≤ 9223372036854775807) (b : Bool) (hb : b = fitM e) :
    Calls Tryz.prog 65 #[.agg #[.int .i64 e.index, .int .i64 e.term, .int .i64 e.kind, .slice A n c]] w fun y w' => y = .returned (.bool b) ∧ Below w.heap.size w w' := by
  obtain ⟨W1, g, hW1, hg, hb1, hq, hsz⟩ := one_box w (.cells #[.int .i64 e.index, .int .i64 e.term, .int .i64 e.kind, .slice A n c] 57)
  have HW := Lib.hid (And.intro hW1 hg)
  have HE := Lib.hid (And.intro hb1 (And.intro hq hsz))
  obtain ⟨x0, x1, x2, x3⟩ := cells4 hq
  have C0 := Lib.hid fun n => counts_any n W1 _ rfl
  have C2 := Lib.hid fun n => isKind_any n W1 _ rfl
  have in1 : (n : Int) ≤ 9223372036854775807 := by omega
  have hcase : (cntE e.index = false ∧ b = false) ∨ (cntE e.index = true ∧ cntE e.term = false ∧ b = false) ∨ (cntE e.index = true ∧ cntE e.term = true ∧ kndE e.kind = false ∧ b = false) ∨ (cntE e.index = true ∧ cntE e.term = true ∧ kndE e.kind = true ∧ ¬ (n : Int) ≤ 4096 ∧ b = false) ∨ (cntE e.index = true ∧ cntE e.term = true ∧ kndE e.kind = true ∧ (n : Int) ≤ 4096 ∧ b = true) := by
    rw [hb]
    by_cases h : fitM e = true
    · have h1 := fitM_iff.1 h
      exact Or.inr (Or.inr (Or.inr (Or.inr ⟨cntE_true.2 ⟨h1.1, h1.2.1⟩, cntE_true.2 ⟨h1.2.2.1, h1.2.2.2.1⟩, kndE_true.2 ⟨h1.2.2.2.2.1, h1.2.2.2.2.2.1⟩, by omega, h⟩)))
    · have h := Bool.eq_false_iff.2 h
      have h1 := fitM_false.1 h
      cases h2 : cntE e.index with
      | false => exact Or.inl ⟨rfl, h⟩
      | true =>
        cases h3 : cntE e.term with
        | false => exact Or.inr (Or.inl ⟨rfl, rfl, h⟩)
        | true =>
          cases h4 : kndE e.kind with
          | false => exact Or.inr (Or.inr (Or.inl ⟨rfl, rfl, rfl, h⟩))
          | true =>
            have := cntE_true.1 h2
            have := cntE_true.1 h3
            have := kndE_true.1 h4
            exact Or.inr (Or.inr (Or.inr (Or.inl ⟨rfl, rfl, rfl, by omega, h⟩)))
  clear hW1 hg hb1 hq hsz hb hn
  rcases hcase with ⟨h0, rfl⟩ | ⟨h0, h1, rfl⟩ | ⟨h0, h1, h2, rfl⟩ | ⟨h0, h1, h2, h3, rfl⟩ | ⟨h0, h1, h2, h3, rfl⟩
  all_goals
    go_enter Tryz.func65, Tryz.ntmps65
    go_upto_region 1 with fail
    rw [← HW.out.1, ← HW.out.2]
    go_wp2_with (first
      | (go_at_call 85; go_must (refine (C0.out _).mono ?_; rintro y w1 ⟨rfl, rfl⟩))
      | (go_at_call 86; go_must (refine (C2.out _).mono ?_; rintro y w1 ⟨rfl, rfl⟩)))
    go_ret
    exact ⟨by first | rfl | exact ret_bool (decide_eq_false (by omega)) | exact ret_bool (decide_eq_true (by omega)), HE.out.1⟩


end Go.Proofs.YtfblgkcipnkhaaaGreatDoor.pk
