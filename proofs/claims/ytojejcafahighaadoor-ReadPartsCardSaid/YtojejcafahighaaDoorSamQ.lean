/-
  The law's own comparisons: ints, same.
-/
import Derived.Test.YtojejcafahighaaDoorGivQ
namespace Go.Proofs.YtojejcafahighaaDoor.pk
open Go Go.RowKit
set_option maxRecDepth 100000

set_option maxHeartbeats 4000000 in
theorem ints_any (A : Option Addr) (m c : Nat) (zs : List Int) (A' : Option Addr) (m' c' : Nat) (ys : List Int) (w : World) (h : Ints w (.slice A m c) zs) (h' : Ints w (.slice A' m' c') ys) (r : Bool) (hr : r = decide (zs = ys)) :
    Calls Tryd.prog 16 #[.slice A m c, .slice A' m' c'] w fun y w' => y = .returned (.bool r) ∧ Below w.heap.size w w' := by
  obtain ⟨hm, hmc, hcm, hat⟩ := h.at_
  obtain ⟨hm', hmc', hcm', hat'⟩ := h'.at_
  have im : (m : Int) ≤ 9223372036854775807 := by omega
  by_cases hl : m = m'
  · subst hl
    have HM := Lib.hid (And.intro hm (And.intro hat hr))
    have HM' := Lib.hid (And.intro hm' hat')
    clear h h' hm hmc hcm hat hr hm' hmc' hcm' hat'
    go_enter Tryd.func16, Tryd.ntmps16
    go_wp2_with fail
    go_loopw [5] (fun ii wr => ∃ k : Nat, k ≤ m ∧ ii = .int .i64 (k : Int) ∧ (∀ j, j < k → zs.getD j 0 = ys.getD j 0) ∧ Below w.heap.size w wr) (fun ii _ => m - (intOf ii).toNat)
    case atStart => exact ⟨0, Nat.zero_le _, rfl, fun j hj => absurd hj (Nat.not_lt_zero j), Below.refl _ _⟩
    case round =>
      obtain ⟨k, hk, rfl, hsame, hbw⟩ := hrel
      have HW := Lib.hid (And.intro hsame hbw)
      clear hsame hbw
      by_cases hlt : k < m
      · obtain ⟨b, off, rfl, hb, hc⟩ := HM.out.2.1 (by omega)
        obtain ⟨b', off', rfl, hb', hc'⟩ := HM'.out.2 (by omega)
        have g1 := (HW.out.2.cell (p := ⟨b, off + k, none⟩) hb).trans (hc k hlt)
        have g2 := (HW.out.2.cell (p := ⟨b', off' + k, none⟩) hb').trans (hc' k hlt)
        obtain ⟨x, hx⟩ : ∃ x, x = zs.getD k 0 := ⟨_, rfl⟩
        obtain ⟨y, hy⟩ : ∃ y, y = ys.getD k 0 := ⟨_, rfl⟩
        rw [← hx] at g1
        rw [← hy] at g2
        have HXY := Lib.hid (And.intro hx hy)
        have ik : (k : Int) < (m : Int) := by omega
        have ik0 : (0 : Int) ≤ (k : Int) := by omega
        clear hb hc hb' hc' hx hy
        by_cases hxy : x = y
        · subst hxy
          go_wp2_with fail
          go_region
          all_goals go_wp2_with fail
          go_roundw
          case rel => exact ⟨k + 1, by omega, by go_num, fun j hj => by
            by_cases hjk : j < k
            · exact HW.out.1 j hjk
            · obtain rfl : j = k := by omega
              exact HXY.out.1.symm.trans HXY.out.2, HW.out.2.drew⟩
          case measure => simp [intOf]; omega
        · have hrf : r = false := by
            rw [HM.out.2.2]
            refine decide_eq_false fun e => hxy ?_
            rw [HXY.out.1, HXY.out.2, e]
          subst hrf
          have hxb : (x == y) = false := by rw [beq_eq_false_iff_ne]; exact hxy
          clear hxy
          go_wp2_with fail
          go_region
          all_goals go_wp2_with fail
          go_ret
          exact ⟨rfl, HW.out.2.drew⟩
      · obtain rfl : k = m := by omega
        have ik : ¬ (k : Int) < (k : Int) := by omega
        have hrt : r = true := by
          rw [HM.out.2.2]
          refine decide_eq_true (List.ext_getElem? fun j => ?_)
          by_cases hj : j < k
          · have e := HW.out.1 j hj
            have h1 := HM.out.1
            have h2 := HM'.out.1
            simp only [List.getD, List.getElem?_eq_getElem (show j < zs.length by omega), List.getElem?_eq_getElem (show j < ys.length by omega), Option.getD_some] at e
            rw [List.getElem?_eq_getElem (show j < zs.length by omega), List.getElem?_eq_getElem (show j < ys.length by omega), e]
          · rw [List.getElem?_eq_none (by have := HM.out.1; omega), List.getElem?_eq_none (by have := HM'.out.1; omega)]
        subst hrt
        go_wp2_with fail
        go_ret
        exact ⟨rfl, HW.out.2⟩
  · have hr' : r = false := by rw [hr]; exact decide_eq_false (fun e => hl (by rw [hm, hm', e]))
    subst hr'
    have il : ¬ (m : Int) = (m' : Int) := by omega
    clear hl h h' hr hm hm' hmc hcm hmc' hcm' hat hat'
    go_enter Tryd.func16, Tryd.ntmps16
    go_wp2_with fail
    go_ret
    exact ⟨rfl, Below.refl _ _⟩


set_option maxHeartbeats 4000000 in
theorem same_any (lim : Int) (l : List It) (A : Option Addr) (n c : Nat) (A' : Option Addr) (n' c' : Nat) (w : World) (h : Its w (.slice A n c) l) (h' : Its w (.slice A' n' c') l) :
    Calls Tryd.prog 14 #[.agg #[.int .i64 lim, .slice A n c], .agg #[.int .i64 lim, .slice A' n' c']] w fun y w' => y = .returned (.bool true) ∧ Below w.heap.size w w' := by
  obtain ⟨W1, g, g2, hW1, hg, hg2, hbw, hq, hq2, hsz1⟩ := two_box w (.cells #[.int .i64 lim, .slice A n c] 31) (.cells #[.int .i64 lim, .slice A' n' c'] 24)
  have HW := Lib.hid (And.intro hW1 (And.intro hg hg2))
  have HE := Lib.hid hbw
  obtain ⟨hn, hnc, hcm⟩ := h.len_
  obtain ⟨hn', hnc', hcm'⟩ := h'.len_
  obtain rfl : n' = n := by omega
  have HI := Lib.hid (And.intro (h.below hbw) (And.intro (h'.below hbw) hn))
  have HCL := Lib.hid (show ∀ W, Below W1.heap.size W1 W → (W.cell? ⟨g, 0, none⟩ = some (.int .i64 lim) ∧ W.cell? ⟨g, 1, none⟩ = some (.slice A n' c)) ∧ W.cell? ⟨g2, 0, none⟩ = some (.int .i64 lim) ∧ W.cell? ⟨g2, 1, none⟩ = some (.slice A' n' c') from fun W hW => ⟨cells2 ((hW.block g (obj_lt hq)).trans hq), cells2 ((hW.block g2 (obj_lt hq2)).trans hq2)⟩)
  obtain ⟨⟨x0, x1⟩, y0, y1⟩ := HCL.out W1 (Below.refl _ _)
  have in1 : (n' : Int) ≤ 9223372036854775807 := by omega
  clear h h' hW1 hg hg2 hbw hq hq2 hsz1 hn hnc hcm hn' hnc' hcm'
  go_enter Tryd.func14, Tryd.ntmps14
  go_upto_region 1 with fail
  rw [← HW.out.1, ← HW.out.2.1, ← HW.out.2.2]
  go_wp2_with fail
  go_loopw [5] (fun ii wr => ∃ (j : Nat), j ≤ n' ∧ ii = .int .i64 (j : Int) ∧ Below W1.heap.size W1 wr) (fun ii _ => n' - (intOf ii).toNat)
  case atStart => exact ⟨0, Nat.zero_le _, rfl, Below.refl _ _⟩
  case round =>
    obtain ⟨j, hj, rfl, hbr⟩ := hrel
    obtain ⟨⟨x0, x1⟩, y0, y1⟩ := HCL.out wr hbr
    by_cases hlt : j < n'
    · have ii : (j : Int) < (n' : Int) := by omega
      have hjl : j < l.length := by have := HI.out.2.2; omega
      obtain ⟨bk, off, rfl, -, q0, q1, q2, q3⟩ := (HI.out.1.below hbr).1.at_ j hjl
      obtain ⟨bk2, off2, rfl, -, r0, r1, r2, r3⟩ := (HI.out.2.1.below hbr).1.at_ j hjl
      obtain ⟨x, hx⟩ : ∃ x, x = l[j] := ⟨_, rfl⟩
      rw [← hx] at q0 q1 q2 q3 r0 r1 r2 r3
      have HBR := Lib.hid hbr
      have s0 : (0 : Int) ≤ (j : Int) := by omega
      clear hx hjl hbr
      go_wp2_with fail
      go_quiet (fail)
      go_wp2_with fail
      go_roundw
      case rel => exact ⟨j + 1, by omega, by go_num, below_drawn HBR.out _⟩
      case measure => simp [intOf]; omega
    · obtain rfl : j = n' := by omega
      have ii : ¬ (j : Int) < (j : Int) := by omega
      go_wp2_with fail
      go_ret
      exact ⟨rfl, HE.out.trans (hbr.mono HE.out.size)⟩

end Go.Proofs.YtojejcafahighaaDoor.pk
