/-
  The document's own words of a queue: in, itemMay, May.
-/
import Derived.Test.YtojejcafahighaaDoorItM
import Derived.Deep.QuietTactic
import Derived.BigQuiet
import Derived.IntWalk
import Derived.Outline
import Derived.RegionTactic
import Derived.Deep.CutBlock
import Derived.Test.YtojejcafahighaaDoorTailQ
namespace Go.Proofs.YtojejcafahighaaDoor.pk
open Go Go.RowKit
set_option maxRecDepth 100000

theorem numB_true {n : Int} : numB n = true ↔ 0 ≤ n ∧ n ≤ 1099511627776 := numB_iff
theorem numB_false {n : Int} : numB n = false ↔ ¬ (0 ≤ n ∧ n ≤ 1099511627776) := by rw [← numB_iff]; simp
theorem itB_parts (x : It) : itB x = (numB x.term && numB x.round && numB x.index && numB x.token) := rfl

theorem in_ref (n : Int) (w : World) (b : Bool) (hb : b = numB n) : Calls Tryd.prog 32 #[.int .i64 n] w fun y w' => y = .returned (.bool b) ∧ w = w' := by
  have HB := Lib.hid hb
  clear hb
  have hc : ¬ 0 ≤ n ∨ (0 ≤ n ∧ ¬ n ≤ 1099511627776) ∨ (0 ≤ n ∧ n ≤ 1099511627776) := by omega
  rcases hc with h1 | ⟨h1, h2⟩ | ⟨h1, h2⟩
  all_goals
    go_enter Tryd.func32, Tryd.ntmps32
    go_wp2_with fail
    go_ret
    exact ⟨ret_bool (by rw [HB.out]; first | exact (numB_true.2 (by omega)).symm | exact (numB_false.2 (by omega)).symm), rfl⟩

set_option maxHeartbeats 4000000 in
theorem itemMay_ref (x : It) (w : World) (b : Bool) (hb : b = itB x) :
    Calls Tryd.prog 22 #[.agg #[.int .i64 x.term, .int .i64 x.round, .int .i64 x.index, .int .i64 x.token]] w fun y w' => y = .returned (.bool b) ∧ Below w.heap.size w w' := by
  obtain ⟨W1, g, hW1, hg, hb1, hq, hsz⟩ := one_box w (.cells #[.int .i64 x.term, .int .i64 x.round, .int .i64 x.index, .int .i64 x.token] 26)
  have HW := Lib.hid (And.intro hW1 hg)
  have HE := Lib.hid (And.intro hb1 (And.intro hq hsz))
  obtain ⟨x0, x1, x2, x3⟩ := cells4 hq
  have C0 := Lib.hid fun n => in_ref n W1 _ rfl
  have hcase : (numB x.term = false ∧ b = false) ∨ (numB x.term = true ∧ numB x.round = false ∧ b = false) ∨ (numB x.term = true ∧ numB x.round = true ∧ numB x.index = false ∧ b = false) ∨ (numB x.term = true ∧ numB x.round = true ∧ numB x.index = true ∧ b = numB x.token) := by
    rw [hb, itB_parts]
    cases numB x.term <;> cases numB x.round <;> cases numB x.index <;> simp
  clear hW1 hg hb1 hq hsz hb
  rcases hcase with ⟨h0, rfl⟩ | ⟨h0, h1, rfl⟩ | ⟨h0, h1, h2, rfl⟩ | ⟨h0, h1, h2, rfl⟩
  all_goals
    go_enter Tryd.func22, Tryd.ntmps22
    go_upto_region 1 with fail
    rw [← HW.out.1, ← HW.out.2]
    go_wp2_with (go_at_call 32; go_must (refine (C0.out _).mono ?_; rintro y w1 ⟨rfl, rfl⟩))
    go_ret
    exact ⟨rfl, HE.out.1⟩

theorem all_drop {p : It → Bool} {l : List It} {j : Nat} (hj : j < l.length) : (l.drop j).all p = (p l[j] && (l.drop (j + 1)).all p) := by
  rw [List.drop_eq_getElem_cons hj, List.all_cons]

set_option maxHeartbeats 4000000 in
theorem May_ref (lim : Int) (l : List It) (A : Option Addr) (n c : Nat) (w : World) (h : Its w (.slice A n c) l) (b : Bool) (hb : b = mayQ lim l) :
    Calls Tryd.prog 13 #[.agg #[.int .i64 lim, .slice A n c]] w fun y w' => y = .returned (.bool b) ∧ Below w.heap.size w w' := by
  obtain ⟨W1, g, hW1, hg, hb1, hq, hsz⟩ := one_box w (.cells #[.int .i64 lim, .slice A n c] 24)
  have HW := Lib.hid (And.intro hW1 hg)
  have HE := Lib.hid (And.intro hb1 (And.intro hq hsz))
  obtain ⟨hn, hnc, hcm⟩ := h.len_
  have HI := Lib.hid (And.intro (h.below hb1) hn)
  have HCL := Lib.hid (show ∀ W, Below W1.heap.size W1 W → W.cell? ⟨g, 0, none⟩ = some (.int .i64 lim) ∧ W.cell? ⟨g, 1, none⟩ = some (.slice A n c) from fun W hW => cells2 ((hW.block g (obj_lt hq)).trans hq))
  obtain ⟨x0, x1⟩ := cells2 hq
  have in1 : (n : Int) ≤ 9223372036854775807 := by omega
  have hcase : (lim < 1 ∧ b = false) ∨ (¬ lim < 1 ∧ 4096 < lim ∧ b = false) ∨ (¬ lim < 1 ∧ ¬ 4096 < lim ∧ lim < (n : Int) ∧ b = false) ∨ (¬ lim < 1 ∧ ¬ 4096 < lim ∧ ¬ lim < (n : Int) ∧ b = l.all itB) := by
    rw [hb]
    unfold mayQ
    rw [← hn]
    by_cases c1 : lim < 1
    · left; exact ⟨c1, by rw [decide_eq_false (by omega)]; rfl⟩
    · right
      by_cases c2 : 4096 < lim
      · left; exact ⟨c1, c2, by rw [decide_eq_false (show ¬ lim ≤ 4096 by omega), Bool.and_false, Bool.false_and, Bool.false_and]⟩
      · right
        by_cases c3 : lim < (n : Int)
        · left; exact ⟨c1, c2, c3, by rw [decide_eq_false (show ¬ (n : Int) ≤ lim by omega), Bool.and_false, Bool.false_and]⟩
        · right; exact ⟨c1, c2, c3, by rw [decide_eq_true (show 1 ≤ lim by omega), decide_eq_true (show lim ≤ 4096 by omega), decide_eq_true (show (n : Int) ≤ lim by omega)]; rfl⟩
  clear h hW1 hg hb1 hq hsz hb hn hnc hcm
  rcases hcase with ⟨c1, rfl⟩ | ⟨c1, c2, rfl⟩ | ⟨c1, c2, c3, rfl⟩ | ⟨c1, c2, c3, hb⟩
  case inl | inr.inl | inr.inr.inl =>
    go_enter Tryd.func13, Tryd.ntmps13
    go_upto_region 1 with fail
    rw [← HW.out.1, ← HW.out.2]
    go_wp2_with fail
    go_ret
    exact ⟨rfl, HE.out.1⟩
  · have HB0 := Lib.hid hb
    clear hb
    go_enter Tryd.func13, Tryd.ntmps13
    go_upto_region 1 with fail
    rw [← HW.out.1, ← HW.out.2]
    go_wp2_with fail
    go_loopw [3] (fun ii wr => ∃ (j : Nat), j ≤ n ∧ ii = .int .i64 (j : Int) ∧ Hid (b = (l.drop j).all itB) ∧ Below W1.heap.size W1 wr) (fun ii _ => n - (intOf ii).toNat)
    case atStart => exact ⟨0, Nat.zero_le _, rfl, Lib.hid (by rw [List.drop_zero]; exact HB0.out), Below.refl _ _⟩
    case round =>
      obtain ⟨j, hj, rfl, HB, hbw⟩ := hrel
      obtain ⟨x0, x1⟩ := HCL.out wr hbw
      have HBW := Lib.hid hbw
      by_cases hlt : j < n
      · have ii : (j : Int) < (n : Int) := by omega
        have hjl : j < l.length := by have := HI.out.2; omega
        obtain ⟨bk, off, rfl, hbb, q0, q1, q2, q3⟩ := (HI.out.1.below hbw).1.at_ j hjl
        have hal := all_drop (p := itB) hjl
        rw [← HB.out] at hal
        obtain ⟨x, hx⟩ : ∃ x, x = l[j] := ⟨_, rfl⟩
        rw [← hx] at q0 q1 q2 q3 hal
        have CI := Lib.hid fun W => itemMay_ref x W _ rfl
        clear hbb hjl hx hbw
        cases hxb : itB x with
        | false =>
          rw [hxb, Bool.false_and] at hal
          have HR := Lib.hid hal
          clear hal
          go_wp2_with (go_at_call 22; go_must (refine (CI.out _).mono ?_; rintro y w1 ⟨rfl, hb1⟩; have HB1 := Lib.hid (HBW.out.trans (hb1.mono HBW.out.size)); clear hb1))
          go_ret
          exact ⟨ret_bool HR.out.symm, HE.out.1.trans (HB1.out.mono HE.out.1.size)⟩
        | true =>
          rw [hxb, Bool.true_and] at hal
          have HR := Lib.hid hal
          clear hal
          go_wp2_with (go_at_call 22; go_must (refine (CI.out _).mono ?_; rintro y w1 ⟨rfl, hb1⟩; have HB1 := Lib.hid (HBW.out.trans (hb1.mono HBW.out.size)); clear hb1))
          go_roundw
          case rel => exact ⟨j + 1, by omega, by go_num, Lib.hid HR.out, HB1.out⟩
          case measure => simp [intOf]; omega
      · obtain rfl : j = n := by omega
        have ii : ¬ (j : Int) < (j : Int) := by omega
        go_wp2_with fail
        go_ret
        exact ⟨ret_bool (by have h1 := HB.out; rw [List.drop_eq_nil_of_le (by have := HI.out.2; omega)] at h1; rw [h1]; rfl), HE.out.1.trans (HBW.out.mono HE.out.1.size)⟩

end Go.Proofs.YtojejcafahighaaDoor.pk
