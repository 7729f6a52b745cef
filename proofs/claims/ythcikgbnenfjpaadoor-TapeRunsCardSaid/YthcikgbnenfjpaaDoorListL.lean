/-
  The law's own 'list': whether two rows of bytes are the same: walked.
-/
import Derived.Test.YthcikgbnenfjpaaDoorLists
import Derived.Test.YthcikgbnenfjpaaDoorLit
import Derived.RegionTactic
namespace Go.Proofs.YthcikgbnenfjpaaDoor.pk
open Go Go.RowKit
set_option maxRecDepth 100000

set_option maxHeartbeats 4000000 in
theorem list_any (Ta Tb : Nat → Prop) (Aa Ab : Option Addr) (ma ca mb cb : Nat) (la lb : List (List UInt8)) (w : World) (ha : ListsT w Ta (.slice Aa ma ca) la) (hb : ListsT w Tb (.slice Ab mb cb) lb) (r : Bool) (hr : r = decide (la = lb)) :
    Calls Tryd.prog 14 #[.slice Aa ma ca, .slice Ab mb cb] w fun y w' => y = .returned (.bool r) ∧ Below w.heap.size w w' := by
  obtain ⟨A1, c1, hv, hmc, hcm⟩ := ha.form
  injection hv with e1 e2 e3
  subst e1; subst e3
  obtain ⟨A2, c2, hv, hmc', hcm'⟩ := hb.form
  injection hv with e4 e5 e6
  subst e4; subst e6
  have im : (ma : Int) ≤ 9223372036854775807 := by omega
  have HA := Lib.hid (And.intro ha e2)
  have HB := Lib.hid (And.intro hb e5)
  by_cases hl : ma = mb
  · subst hl
    clear ha hb e2 e5 hmc hcm hmc' hcm'
    have HR := Lib.hid hr
    clear hr
    go_enter Tryd.func14, Tryd.ntmps14
    go_wp2_with fail
    go_loopw [5] (fun ii wr => ∃ k : Nat, k ≤ ma ∧ ii = .int .i64 (k : Int) ∧ (∀ j, j < k → la[j]? = lb[j]?) ∧ Below w.heap.size w wr) (fun ii _ => ma - (intOf ii).toNat)
    case atStart => exact ⟨0, Nat.zero_le _, rfl, fun j hj => absurd hj (Nat.not_lt_zero j), Below.refl _ _⟩
    case round =>
      obtain ⟨k, hk, rfl, hsame, hbw⟩ := hrel
      have HW := Lib.hid (And.intro hsame hbw)
      clear hsame hbw
      by_cases hlt : k < ma
      · obtain ⟨b, off, Ai, ci, rfl, hTb, hcell, hsl⟩ := HA.out.1.at_ k (by have := HA.out.2; omega)
        obtain ⟨b', off', Ai', ci', rfl, hTb', hcell', hsl'⟩ := HB.out.1.at_ k (by have := HB.out.2; omega)
        obtain ⟨x, hx⟩ : ∃ x, x = la[k]'(by have := HA.out.2; omega) := ⟨_, rfl⟩
        obtain ⟨y, hy⟩ : ∃ y, y = lb[k]'(by have := HB.out.2; omega) := ⟨_, rfl⟩
        rw [← hx] at hcell hsl
        rw [← hy] at hcell' hsl'
        have g1 := (HW.out.2.cell (p := ⟨b, off + k, none⟩) (World.block_lt_of_cell? w _ hcell)).trans hcell
        have g2 := (HW.out.2.cell (p := ⟨b', off' + k, none⟩) (World.block_lt_of_cell? w _ hcell')).trans hcell'
        have v1 := conv_bytes (hsl.sl.below HW.out.2.drew)
        have v2 := conv_bytes (hsl'.sl.below HW.out.2.drew)
        generalize x.length = n at g1 v1
        generalize y.length = n' at g2 v2
        have HXY := Lib.hid (And.intro hx hy)
        have ik : (k : Int) < (ma : Int) := by omega
        have ik0 : (0 : Int) ≤ (k : Int) := by omega
        clear hcell hsl hcell' hsl' hx hy hTb hTb'
        by_cases hxy : x = y
        · subst hxy
          go_wp2_with fail
          go_region
          all_goals go_wp2_with fail
          go_roundw
          case rel => exact ⟨k + 1, by omega, by go_num, fun j hj => by
            by_cases hjk : j < k
            · exact HW.out.1 j hjk
            · obtain rfl : j = k := by omega
              rw [List.getElem?_eq_getElem (by have := HA.out.2; omega), List.getElem?_eq_getElem (by have := HB.out.2; omega), ← HXY.out.1, ← HXY.out.2], HW.out.2.drew⟩
          case measure => simp [intOf]; omega
        · have hxb : (x == y) = false := by rw [beq_eq_false_iff_ne]; exact hxy
          have hrf : r = false := by
            rw [HR.out]
            refine decide_eq_false fun e => hxy ?_
            have h1 : la[k]? = lb[k]? := by rw [e]
            rw [List.getElem?_eq_getElem (by have := HA.out.2; omega), List.getElem?_eq_getElem (by have := HB.out.2; omega), ← HXY.out.1, ← HXY.out.2] at h1
            injection h1
          subst hrf
          clear hxy
          go_wp2_with fail
          go_region
          all_goals go_wp2_with fail
          go_ret
          exact ⟨rfl, HW.out.2.drew⟩
      · obtain rfl : k = ma := by omega
        have ik : ¬ (k : Int) < (k : Int) := by omega
        have hrt : r = true := by
          rw [HR.out]
          refine decide_eq_true (List.ext_getElem? fun j => ?_)
          by_cases hj : j < k
          · exact HW.out.1 j hj
          · rw [List.getElem?_eq_none (by have := HA.out.2; omega), List.getElem?_eq_none (by have := HB.out.2; omega)]
        subst hrt
        go_wp2_with fail
        go_ret
        exact ⟨rfl, HW.out.2⟩
  · clear ha hb
    have hr' : r = false := by rw [hr]; exact decide_eq_false (fun e => hl (by rw [e2, e5, e]))
    subst hr'
    have il : ¬ (ma : Int) = (mb : Int) := by omega
    clear hl e2 e5 hr hmc hcm hmc' hcm'
    go_enter Tryd.func14, Tryd.ntmps14
    go_wp2_with fail
    go_ret
    exact ⟨rfl, Below.refl _ _⟩

end Go.Proofs.YthcikgbnenfjpaaDoor.pk
