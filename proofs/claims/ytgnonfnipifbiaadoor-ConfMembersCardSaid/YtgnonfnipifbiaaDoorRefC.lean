/-
  The document's own May, In, Quorum: walked.
-/
import Derived.Test.YtgnonfnipifbiaaDoorPureD
import Derived.Deep.QuietTactic
import Derived.BigQuiet
import Derived.IntWalk
import Derived.Outline
import Derived.RegionTactic
namespace Go.Proofs.YtgnonfnipifbiaaDoor.pk
open Go Go.RowKit
set_option maxRecDepth 100000

set_option maxHeartbeats 1000000 in
theorem In_any (A : Option Addr) (m c : Nat) (zs : List Int) (n : Int) (w : World) (h : Ints w (.slice A m c) zs) (r : Bool) (hr : r = decide (n ∈ zs)) :
    Calls Tryd.prog 13 #[.slice A m c, .int .i64 n] w fun y w' => y = .returned (.bool r) ∧ Below w.heap.size w w' := by
  obtain ⟨hm, hmc, hcm, hat⟩ := h.at_
  have im : (m : Int) ≤ 9223372036854775807 := by omega
  have HM := Lib.hid (And.intro hm (And.intro hat hr))
  clear h hm hmc hcm hat hr
  go_enter Tryd.func13, Tryd.ntmps13
  go_wp2_with fail
  go_loopw [5] (fun ii wr => ∃ k : Nat, k ≤ m ∧ ii = .int .i64 (k : Int) ∧ (∀ j, j < k → zs.getD j 0 ≠ n) ∧ Below w.heap.size w wr) (fun ii _ => m - (intOf ii).toNat)
  case atStart => exact ⟨0, Nat.zero_le _, rfl, fun j hj => absurd hj (Nat.not_lt_zero j), Below.refl _ _⟩
  case round =>
    obtain ⟨k, hk, rfl, hno, hbw⟩ := hrel
    have HW := Lib.hid (And.intro hno hbw)
    clear hno hbw
    by_cases hlt : k < m
    · obtain ⟨b, off, rfl, hb, hc⟩ := HM.out.2.1 (by omega)
      have g1 := (HW.out.2.cell (p := ⟨b, off + k, none⟩) hb).trans (hc k hlt)
      have ik : (k : Int) < (m : Int) := by omega
      have ik0 : (0 : Int) ≤ (k : Int) := by omega
      clear hb hc
      by_cases hz : zs.getD k 0 = n
      · have hrt : r = true := by
          rw [HM.out.2.2]
          exact decide_eq_true (mem_getD.2 ⟨k, by have := HM.out.1; omega, hz⟩)
        subst hrt
        rw [hz] at g1
        clear hz
        go_wp2_with fail
        go_ret
        exact ⟨rfl, HW.out.2⟩
      · have HZ := Lib.hid hz
        obtain ⟨z, hzz⟩ : ∃ z, z = zs.getD k 0 := ⟨_, rfl⟩
        rw [← hzz] at hz g1
        clear hzz
        go_wp2_with fail
        go_roundw
        case rel => exact ⟨k + 1, by omega, by go_num, fun j hj => by
          by_cases hjk : j < k
          · exact HW.out.1 j hjk
          · obtain rfl : j = k := by omega
            exact HZ.out, HW.out.2⟩
        case measure => simp [intOf]; omega
    · obtain rfl : k = m := by omega
      have ik : ¬ (k : Int) < (k : Int) := by omega
      have hrf : r = false := by
        rw [HM.out.2.2]
        refine decide_eq_false fun e => ?_
        obtain ⟨j, hj, e⟩ := mem_getD.1 e
        exact HW.out.1 j (by have := HM.out.1; omega) e
      subst hrf
      go_wp2_with fail
      go_ret
      exact ⟨rfl, HW.out.2⟩

set_option maxHeartbeats 2000000 in
theorem May_any (A : Option Addr) (m c : Nat) (zs : List Int) (w : World) (h : Ints w (.slice A m c) zs) (r : Bool) (hr : r = mayC zs) :
    Calls Tryd.prog 11 #[.slice A m c] w fun y w' => y = .returned (.bool r) ∧ Below w.heap.size w w' := by
  obtain ⟨hm, hmc, hcm, hat⟩ := h.at_
  have im : (m : Int) ≤ 9223372036854775807 := by omega
  have HM := Lib.hid (And.intro hm (And.intro hat hr))
  clear h hm hmc hcm hat hr
  go_enter Tryd.func11, Tryd.ntmps11
  go_wp2_with fail
  go_loopw [3] (fun ii wr => ∃ k : Nat, k ≤ m ∧ ii = .int .i64 (k : Int) ∧ (∀ j, j < k → okC zs j) ∧ Below w.heap.size w wr) (fun ii _ => m - (intOf ii).toNat)
  case atStart => exact ⟨0, Nat.zero_le _, rfl, fun j hj => absurd hj (Nat.not_lt_zero j), Below.refl _ _⟩
  case round =>
    obtain ⟨k, hk, rfl, hno, hbw⟩ := hrel
    have HW := Lib.hid (And.intro hno hbw)
    clear hno hbw
    by_cases hlt : k < m
    · obtain ⟨b, off, rfl, hb, hc⟩ := HM.out.2.1 (by omega)
      have g1 := (HW.out.2.cell (p := ⟨b, off + k, none⟩) hb).trans (hc k hlt)
      have g2 := (HW.out.2.cell (p := ⟨b, off + (k - 1), none⟩) hb).trans (hc (k - 1) (by omega))
      have ik : (k : Int) < (m : Int) := by omega
      have ik0 : (0 : Int) ≤ (k : Int) := by omega
      have OK := Lib.hid (show okC zs k ↔ _ from Iff.rfl)
      obtain ⟨z, hz⟩ : ∃ z, z = zs.getD k 0 := ⟨_, rfl⟩
      obtain ⟨y, hy⟩ : ∃ y, y = zs.getD (k - 1) 0 := ⟨_, rfl⟩
      rw [← hz] at g1
      rw [← hy] at g2
      have HZ := Lib.hid (And.intro hz hy)
      clear hb hc hz hy
      have bad : ¬ okC zs k → r = false := fun hn => by
        rw [HM.out.2.2]
        cases hmy : mayC zs with
        | false => rfl
        | true => exact absurd (((mayC_iff zs).1 hmy).2 k (by have := HM.out.1; omega)) hn
      by_cases h1 : z < 1
      · have d1 := decide_eq_true h1
        have hrf := bad fun e => by have := e.1; rw [← HZ.out.1] at this; omega
        subst hrf
        clear bad
        go_wp2_with fail
        go_quiet (fail)
        go_wp2_with fail
        go_ret
        exact ⟨rfl, below_drawn HW.out.2 _⟩
      · have d1 := decide_eq_false h1
        by_cases h2 : 64 < z
        · have d2 := decide_eq_true h2
          have hrf := bad fun e => by have := e.2.1; rw [← HZ.out.1] at this; omega
          subst hrf
          clear bad
          go_wp2_with fail
          go_quiet (fail)
          go_wp2_with fail
          go_ret
          exact ⟨rfl, below_drawn HW.out.2 _⟩
        · have d2 := decide_eq_false h2
          by_cases h0 : k = 0
          · subst h0
            have d0 : decide ((0 : Int) < ((0 : Nat) : Int)) = false := by decide
            have dn : decide (0 < 0) = false := by decide
            have g3 : wr.cell? ⟨b, off, none⟩ = some (.int .i64 z) := g1
            clear g1 g2
            have ok : okC zs 0 := ⟨by rw [← HZ.out.1]; omega, by rw [← HZ.out.1]; omega, fun h => absurd h (by omega)⟩
            have HOK := Lib.hid ok
            clear bad ok
            go_wp2_with fail
            go_quiet (fail)
            go_wp2_with fail
            go_roundw
            case rel => exact ⟨1, by omega, by go_num, fun j hj => by
              obtain rfl : j = 0 := by omega
              exact HOK.out, below_drawn HW.out.2 _⟩
            case measure => simp [intOf]; omega
          · have k0 : (0 : Int) < (k : Int) := by omega
            have k1 : ((k : Int) - 1).toNat = k - 1 := by omega
            have k2 : (0 : Int) ≤ (k : Int) - 1 := by omega
            have k3 : (k : Int) - 1 < (m : Int) := by omega
            have d0 := decide_eq_true k0
            have dn := decide_eq_true (show 0 < k by omega)
            by_cases h3 : z ≤ y
            · have d3 := decide_eq_true h3
              have hrf := bad fun e => by have := e.2.2 (by omega); rw [← HZ.out.1, ← HZ.out.2] at this; omega
              subst hrf
              clear bad
              go_wp2_with fail
              go_quiet (fail)
              go_wp2_with fail
              go_ret
              exact ⟨rfl, below_drawn HW.out.2 _⟩
            · have d3 := decide_eq_false h3
              have ok : okC zs k := ⟨by rw [← HZ.out.1]; omega, by rw [← HZ.out.1]; omega, fun _ => by rw [← HZ.out.1, ← HZ.out.2]; omega⟩
              have HOK := Lib.hid ok
              clear bad ok
              go_wp2_with fail
              go_quiet (fail)
              go_wp2_with fail
              go_roundw
              case rel => exact ⟨k + 1, by omega, by go_num, fun j hj => by
                by_cases hjk : j < k
                · exact HW.out.1 j hjk
                · obtain rfl : j = k := by omega
                  exact HOK.out, below_drawn HW.out.2 _⟩
              case measure => simp [intOf]; omega
    · obtain rfl : k = m := by omega
      have ik : ¬ (k : Int) < (k : Int) := by omega
      have hrd : r = (decide (0 < k) && decide (k < 8)) := by
        rw [HM.out.2.2]
        have hl := HM.out.1
        cases hmy : mayC zs with
        | false =>
          have hn : ¬ MayC zs := fun e => by rw [(mayC_iff zs).2 e] at hmy; cases hmy
          by_cases h1 : 0 < k
          · by_cases h2 : k < 8
            · exact absurd ⟨⟨by omega, by omega⟩, fun j hj => HW.out.1 j (by omega)⟩ hn
            · simp [h2]
          · simp [h1]
        | true =>
          have := ((mayC_iff zs).1 hmy).1
          simp only [decide_eq_true (show 0 < k by omega), decide_eq_true (show k < 8 by omega), Bool.and_self]
      by_cases h1 : 0 < k
      · by_cases h2 : k < 8
        · have hrt : r = true := by rw [hrd]; simp [h1, h2]
          have i8 : (k : Int) < 8 := by omega
          subst hrt
          clear hrd
          go_wp2_with fail
          go_ret
          exact ⟨rfl, HW.out.2⟩
        · have hrt : r = false := by rw [hrd]; simp [h2]
          have i8 : ¬ (k : Int) < 8 := by omega
          subst hrt
          clear hrd
          go_wp2_with fail
          go_ret
          exact ⟨rfl, HW.out.2⟩
      · have hrt : r = false := by rw [hrd]; simp [h1]
        subst hrt
        clear hrd
        go_wp2_with fail
        go_ret
        exact ⟨rfl, HW.out.2⟩

end Go.Proofs.YtgnonfnipifbiaaDoor.pk
