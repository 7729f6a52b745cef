/-
  The law ConfMeet: walked.
-/
import Derived.Test.YtgnonfnipifbiaaLawT
namespace Go.Proofs.Ytgnonfnipifbiaa.pk
open Go Go.RowKit
set_option maxRecDepth 100000

section
variable {zs : List Int} {who : Int}
theorem has_any (C : ConC) (hw : inI who) (r : Bool) (hr : r = (mayC zs && decide (who ∈ zs))) (A : Option Addr) (m c : Nat) (W : World) (hi : Ints W (.slice A m c) zs) (hm : m ≤ 300) :
    Calls Try.prog 19 #[.slice A m c, .int .i64 who] W fun y w' => y = .returned (.bool r) ∧ Below W.heap.size W w' := C.cHas A m c zs who W hi hw hm r hr
end

set_option maxHeartbeats 16000000 in
/-- What follows once there are two near lists of members. -/
theorem meet_case (C : ConC) (A' : Option Addr) (m' c' : Nat) (ss : List Int) (A3 : Option Addr) (m3 c3 : Nat) (os : List Int) (A : Option Addr) (m c : Nat) (zs : List Int) (who : Int) (w : World) (h : Ints w (.slice A m c) zs) (h1 : Ints w (.slice A' m' c') ss) (h2 : Ints w (.slice A3 m3 c3) os) (hw : inI who) :
    Calls Try.prog 4 #[.slice A m c, .int .i64 who, .agg #[.slice A' m' c', .slice A3 m3 c3]] w fun y w' => y = .returned (.bool true) ∧ Below w.heap.size w w' := by
  have HH := Lib.hid (And.intro h (And.intro h1 h2))
  have HM := Lib.hid (And.intro h.len_le (And.intro h1.at_ h2.len_le))
  clear h h1 h2
  have HB0 := Lib.hid ((Below.refl w.heap.size w).alloc (Nat.le_refl _) (.cells #[.slice A' m' c', .slice A3 m3 c3] 35))
  have g0 : (w.alloc (.cells #[.slice A' m' c', .slice A3 m3 c3] 35)).cell? ⟨w.heap.size, 0, none⟩ = some (.slice A' m' c') := by rw [cell_of_row _ w.heap.size _ _ _ (0, 0) (heap_alloc_new w _)]; rfl
  have g1 : (w.alloc (.cells #[.slice A' m' c', .slice A3 m3 c3] 35)).cell? ⟨w.heap.size, 1, none⟩ = some (.slice A3 m3 c3) := by rw [cell_of_row _ w.heap.size _ _ _ (0, 0) (heap_alloc_new w _)]; rfl
  go_enter Try.func4, Try.ntmps4
  go_wp2_with fail
  go_quiet (fail)
  have HB := Lib.hid (below_drawn HB0.out nq)
  obtain ⟨W0, hW0⟩ : ∃ W0, W0 = (w.alloc (.cells #[.slice A' m' c', .slice A3 m3 c3] 35)).drewN nq := ⟨_, rfl⟩
  rw [← hW0] at HB ⊢
  clear g0 g1 HB0 hW0
  by_cases hbig : 300 < m ∨ 300 < m' ∨ 300 < m3
  · have hg : (300 < (m : Int)) ∨ (¬ 300 < (m : Int) ∧ 300 < (m' : Int)) ∨ (¬ 300 < (m : Int) ∧ ¬ 300 < (m' : Int) ∧ 300 < (m3 : Int)) := by omega
    clear hbig
    rcases hg with hg | ⟨hg1, hg2⟩ | ⟨hg1, hg2, hg3⟩
    all_goals
      go_wp2_with (go_at_call 10; go_must (refine (sure_any C _).mono ?_; rintro y w1 ⟨rfl, hb1⟩; have HB := Lib.hid (HB.out.trans (hb1.mono HB.out.size)); clear hb1))
      go_ret
      exact ⟨rfl, HB.out⟩
  · have i1 : ¬ 300 < (m : Int) := by omega
    have i2 : ¬ 300 < (m' : Int) := by omega
    have i3 : ¬ 300 < (m3 : Int) := by omega
    have HN := Lib.hid (show m ≤ 300 ∧ m' ≤ 300 ∧ m3 ≤ 300 by omega)
    clear hbig
    cases hmay : mayC zs with
    | false =>
      have CC := Lib.hid (check_no C hmay)
      have CH := Lib.hid (has_any C (zs := zs) hw false (by rw [hmay]; rfl))
      have CA := Lib.hid (add_no C (zs := zs) hw (by unfold addC; rw [if_pos (Or.inl hmay)]; decide))
      have CQ := Lib.hid fun A m c A' m' c' (W : World) h h' h1 h2 => C.cQuorum A m c zs A' m' c' ss W h h' h1 h2 false (by unfold quorumC; rw [hmay]; rfl)
      have CN := Lib.hid fun A m c A' m' c' (W : World) h h' h1 h2 => C.cNear A m c zs A' m' c' zs W h h' h1 h2 false (by unfold nearC; rw [hmay]; rfl)
      clear hmay
      go_wp2_with (first
        | (go_at_call 10; go_must (refine (sure_any C _).mono ?_; rintro y w1 ⟨rfl, hb1⟩; have HB := Lib.hid (HB.out.trans (hb1.mono HB.out.size)); clear hb1))
        | (go_at_call 12; go_must (refine (own_any A m c zs _ (HH.out.1.below HB.out) (by have := HN.out; omega)).mono ?_; rintro y w1 ⟨A1, c1, rfl, hi1, hb1⟩; have HB := Lib.hid (HB.out.trans (hb1.mono HB.out.size)); have I1 := Lib.hid hi1; clear hi1 hb1))
        | (go_at_call 22; go_must (refine (CC.out _ _ _ _ I1.out HN.out.1).mono ?_; rintro y w1 ⟨⟨t, v, rfl⟩, hb1⟩; have HB := Lib.hid (HB.out.trans (hb1.mono HB.out.size)); (first | have I1 := Lib.hid (I1.out.below hb1) | skip); (first | have I2 := Lib.hid (I2.out.below hb1) | skip); clear hb1))
        | (go_at_call 19; go_must (refine (CH.out _ _ _ _ I1.out HN.out.1).mono ?_; rintro y w1 ⟨rfl, hb1⟩; have HB := Lib.hid (HB.out.trans (hb1.mono HB.out.size)); (first | have I1 := Lib.hid (I1.out.below hb1) | skip); (first | have I2 := Lib.hid (I2.out.below hb1) | skip); clear hb1))
        | (go_at_call 21; go_must (refine (CA.out _ _ _ _ I1.out HN.out.1).mono ?_; rintro y w1 ⟨A2, n2, c2, t2, v2, rfl, hb1⟩; have HB := Lib.hid (HB.out.trans (hb1.mono HB.out.size)); (first | have I1 := Lib.hid (I1.out.below hb1) | skip); (first | have I2 := Lib.hid (I2.out.below hb1) | skip); clear hb1))
        | (go_at_call 11; go_must (refine (CQ.out _ _ _ _ _ _ _ I1.out (HH.out.2.1.below HB.out) HN.out.1 HN.out.2.1).mono ?_; rintro y w1 ⟨rfl, hb1⟩; have HB := Lib.hid (HB.out.trans (hb1.mono HB.out.size)); (first | have I1 := Lib.hid (I1.out.below hb1) | skip); (first | have I2 := Lib.hid (I2.out.below hb1) | skip); clear hb1))
        | (go_at_call 14; go_must (refine (CN.out _ _ _ _ _ _ _ I1.out I1.out HN.out.1 HN.out.1).mono ?_; rintro y w1 ⟨rfl, hb1⟩; have HB := Lib.hid (HB.out.trans (hb1.mono HB.out.size)); (first | have I1 := Lib.hid (I1.out.below hb1) | skip); (first | have I2 := Lib.hid (I2.out.below hb1) | skip); clear hb1)))
      go_ret
      exact ⟨rfl, HB.out⟩
    | true =>
      have CC := Lib.hid (check_yes C hmay)
      have HMAY := Lib.hid hmay
      have hcase : (who ∈ zs ∧ (remC zs who).2 = 0) ∨ (who ∈ zs ∧ (remC zs who).2 ≠ 0) ∨ (¬ who ∈ zs ∧ (addC zs who).2 = 0) ∨ (¬ who ∈ zs ∧ (addC zs who).2 ≠ 0) := by
        by_cases h1 : who ∈ zs
        · by_cases h2 : (remC zs who).2 = 0
          · exact Or.inl ⟨h1, h2⟩
          · exact Or.inr (Or.inl ⟨h1, h2⟩)
        · by_cases h2 : (addC zs who).2 = 0
          · exact Or.inr (Or.inr (Or.inl ⟨h1, h2⟩))
          · exact Or.inr (Or.inr (Or.inr ⟨h1, h2⟩))
      rcases hcase with ⟨h1, h2⟩ | ⟨h1, h2⟩ | ⟨h1, h2⟩ | ⟨h1, h2⟩
      case' inl =>
        obtain ⟨ys, hys⟩ : ∃ a, a = zs.filter fun x => decide (x ≠ who) := ⟨_, rfl⟩
        have hnr : nearC zs ys = true := by rw [nearC_comm, hys]; exact (remC_yes h2).2.2.2.2.2.1
        have CH := Lib.hid (has_any C (zs := zs) hw true (by rw [hmay, decide_eq_true h1]; rfl))
        have CR := Lib.hid (rem_yes C hw h2 ys hys)
        clear h1 h2 hys hmay
        go_upto_region 13 with (first
          | (go_at_call 12; go_must (refine (own_any A m c zs _ (HH.out.1.below HB.out) (by have := HN.out; omega)).mono ?_; rintro y w1 ⟨A1, c1, rfl, hi1, hb1⟩; have HB := Lib.hid (HB.out.trans (hb1.mono HB.out.size)); have I1 := Lib.hid hi1; clear hi1 hb1))
          | (go_at_call 19; go_must (refine (CH.out _ _ _ _ I1.out HN.out.1).mono ?_; rintro y w1 ⟨rfl, hb1⟩; have HB := Lib.hid (HB.out.trans (hb1.mono HB.out.size)); (first | have I1 := Lib.hid (I1.out.below hb1) | skip); (first | have I2 := Lib.hid (I2.out.below hb1) | skip); clear hb1))
          | (go_at_call 20; go_must (refine (CR.out _ _ _ _ I1.out HN.out.1).mono ?_; rintro y w1 ⟨A2, n2, c2, rfl, hi2, hb1⟩; have HB := Lib.hid (HB.out.trans (hb1.mono HB.out.size)); (first | have I1 := Lib.hid (I1.out.below hb1) | skip); (first | have I2 := Lib.hid (I2.out.below hb1) | skip); have I2 := Lib.hid hi2; clear hb1 hi2)))
        clear CH CR
      case' inr.inl =>
        obtain ⟨ys, hys⟩ : ∃ a, a = zs := ⟨_, rfl⟩
        have hnr : nearC zs ys = true := by rw [hys]; exact near_self hmay
        have CH := Lib.hid (has_any C (zs := zs) hw true (by rw [hmay, decide_eq_true h1]; rfl))
        have CR := Lib.hid (rem_no C hw h2)
        clear h1 h2 hmay
        go_upto_region 13 with (first
          | (go_at_call 12; go_must (refine (own_any A m c zs _ (HH.out.1.below HB.out) (by have := HN.out; omega)).mono ?_; rintro y w1 ⟨A1, c1, rfl, hi1, hb1⟩; have HB := Lib.hid (HB.out.trans (hb1.mono HB.out.size)); have I1 := Lib.hid hi1; clear hi1 hb1))
          | (go_at_call 19; go_must (refine (CH.out _ _ _ _ I1.out HN.out.1).mono ?_; rintro y w1 ⟨rfl, hb1⟩; have HB := Lib.hid (HB.out.trans (hb1.mono HB.out.size)); (first | have I1 := Lib.hid (I1.out.below hb1) | skip); (first | have I2 := Lib.hid (I2.out.below hb1) | skip); clear hb1))
          | (go_at_call 20; go_must (refine (CR.out _ _ _ _ I1.out HN.out.1).mono ?_; rintro y w1 ⟨A2, n2, c2, t2, v2, rfl, hb1⟩; have HB := Lib.hid (HB.out.trans (hb1.mono HB.out.size)); (first | have I1 := Lib.hid (I1.out.below hb1) | skip); (first | have I2 := Lib.hid (I2.out.below hb1) | skip); clear hb1)))
        have I2 := Lib.hid (show Ints _ _ ys by rw [hys]; exact I1.out)
        clear CH CR hys
      case' inr.inr.inl =>
        obtain ⟨ys, hys⟩ : ∃ a, a = insC who zs := ⟨_, rfl⟩
        have hnr : nearC zs ys = true := by rw [nearC_comm, hys]; exact (addC_yes h2).2.2.2.2.1
        have CH := Lib.hid (has_any C (zs := zs) hw false (by rw [hmay, decide_eq_false h1]; rfl))
        have CR := Lib.hid (add_yes C hw h2 ys hys)
        clear h1 h2 hys hmay
        go_upto_region 13 with (first
          | (go_at_call 12; go_must (refine (own_any A m c zs _ (HH.out.1.below HB.out) (by have := HN.out; omega)).mono ?_; rintro y w1 ⟨A1, c1, rfl, hi1, hb1⟩; have HB := Lib.hid (HB.out.trans (hb1.mono HB.out.size)); have I1 := Lib.hid hi1; clear hi1 hb1))
          | (go_at_call 19; go_must (refine (CH.out _ _ _ _ I1.out HN.out.1).mono ?_; rintro y w1 ⟨rfl, hb1⟩; have HB := Lib.hid (HB.out.trans (hb1.mono HB.out.size)); (first | have I1 := Lib.hid (I1.out.below hb1) | skip); (first | have I2 := Lib.hid (I2.out.below hb1) | skip); clear hb1))
          | (go_at_call 21; go_must (refine (CR.out _ _ _ _ I1.out HN.out.1).mono ?_; rintro y w1 ⟨A2, n2, c2, rfl, hi2, hb1⟩; have HB := Lib.hid (HB.out.trans (hb1.mono HB.out.size)); (first | have I1 := Lib.hid (I1.out.below hb1) | skip); (first | have I2 := Lib.hid (I2.out.below hb1) | skip); have I2 := Lib.hid hi2; clear hb1 hi2)))
        clear CH CR
      case' inr.inr.inr =>
        obtain ⟨ys, hys⟩ : ∃ a, a = zs := ⟨_, rfl⟩
        have hnr : nearC zs ys = true := by rw [hys]; exact near_self hmay
        have CH := Lib.hid (has_any C (zs := zs) hw false (by rw [hmay, decide_eq_false h1]; rfl))
        have CR := Lib.hid (add_no C hw h2)
        clear h1 h2 hmay
        go_upto_region 13 with (first
          | (go_at_call 12; go_must (refine (own_any A m c zs _ (HH.out.1.below HB.out) (by have := HN.out; omega)).mono ?_; rintro y w1 ⟨A1, c1, rfl, hi1, hb1⟩; have HB := Lib.hid (HB.out.trans (hb1.mono HB.out.size)); have I1 := Lib.hid hi1; clear hi1 hb1))
          | (go_at_call 19; go_must (refine (CH.out _ _ _ _ I1.out HN.out.1).mono ?_; rintro y w1 ⟨rfl, hb1⟩; have HB := Lib.hid (HB.out.trans (hb1.mono HB.out.size)); (first | have I1 := Lib.hid (I1.out.below hb1) | skip); (first | have I2 := Lib.hid (I2.out.below hb1) | skip); clear hb1))
          | (go_at_call 21; go_must (refine (CR.out _ _ _ _ I1.out HN.out.1).mono ?_; rintro y w1 ⟨A2, n2, c2, t2, v2, rfl, hb1⟩; have HB := Lib.hid (HB.out.trans (hb1.mono HB.out.size)); (first | have I1 := Lib.hid (I1.out.below hb1) | skip); (first | have I2 := Lib.hid (I2.out.below hb1) | skip); clear hb1)))
        have I2 := Lib.hid (show Ints _ _ ys by rw [hys]; exact I1.out)
        clear CH CR hys
      all_goals
        have hmy : mayC ys = true := by
          unfold nearC at hnr
          simp only [Bool.and_eq_true] at hnr
          exact hnr.1.2
        obtain ⟨q1, hq1⟩ : ∃ q, q = quorumC zs ss := ⟨_, rfl⟩
        obtain ⟨q2, hq2⟩ : ∃ q, q = quorumC ys os := ⟨_, rfl⟩
        have HL := Lib.hid (len300 hmy I2.out)
        have CQ := Lib.hid fun A m c A' m' c' (W : World) h h' h1 h2 => C.cQuorum A m c zs A' m' c' ss W h h' h1 h2 q1 hq1
        have CQ2 := Lib.hid fun A m c A' m' c' (W : World) h h' h1 h2 => C.cQuorum A m c ys A' m' c' os W h h' h1 h2 q2 hq2
        have CN := Lib.hid fun A m c A' m' c' (W : World) h h' h1 h2 => C.cNear A m c zs A' m' c' ys W h h' h1 h2 true hnr.symm
        have HQ := Lib.hid (And.intro hq1 (And.intro hq2 (And.intro hnr hmy)))
        clear hq1 hq2 hnr hmy
        cases q1
        case' true => cases q2
        case' true.true =>
          go_upto_block 1 with (first
            | (go_at_call 22; go_must (refine (CC.out _ _ _ _ I1.out HN.out.1).mono ?_; rintro y w1 ⟨rfl, hb1⟩; have HB := Lib.hid (HB.out.trans (hb1.mono HB.out.size)); (first | have I1 := Lib.hid (I1.out.below hb1) | skip); (first | have I2 := Lib.hid (I2.out.below hb1) | skip); clear hb1))
            | (go_at_call 11; have h0 := F1.out; go_must (refine (CQ2.out _ _ _ _ _ _ _ I2.out (HH.out.2.2.below HB.out) HL.out HN.out.2.2).mono ?_; rintro y w1 ⟨rfl, hb1⟩; have HB := Lib.hid (HB.out.trans (hb1.mono HB.out.size)); (first | have I1 := Lib.hid (I1.out.below hb1) | skip); (first | have I2 := Lib.hid (I2.out.below hb1) | skip); clear hb1 h0))
            | (go_at_call 11; go_must (refine (CQ.out _ _ _ _ _ _ _ I1.out (HH.out.2.1.below HB.out) HN.out.1 HN.out.2.1).mono ?_; rintro y w1 ⟨rfl, hb1⟩; have HB := Lib.hid (HB.out.trans (hb1.mono HB.out.size)); (first | have I1 := Lib.hid (I1.out.below hb1) | skip); (first | have I2 := Lib.hid (I2.out.below hb1) | skip); clear hb1; have F1 := Lib.hid trivial))
            | (go_at_call 14; go_must (refine (CN.out _ _ _ _ _ _ _ I1.out I2.out HN.out.1 HL.out).mono ?_; rintro y w1 ⟨rfl, hb1⟩; have HB := Lib.hid (HB.out.trans (hb1.mono HB.out.size)); (first | have I1 := Lib.hid (I1.out.below hb1) | skip); (first | have I2 := Lib.hid (I2.out.below hb1) | skip); clear hb1)))
          have HV := Lib.hid HB.out
          have CHX := Lib.hid fun (z : Int) (hz : inI z) r hr A m c W hi hm => has_any C (zs := zs) (who := z) hz r hr A m c W hi hm
          have CHY := Lib.hid fun (z : Int) (hz : inI z) r hr A m c W hi hm => has_any C (zs := ys) (who := z) hz r hr A m c W hi hm
          have J1 := I1
          have J2 := I2
          clear CC CQ CQ2 CN HB I1 I2 F1
          obtain ⟨WV, hWV⟩ : ∃ WV, WV = w1 := ⟨_, rfl⟩
          rw [← hWV] at HV J1 J2 ⊢
          clear hWV
          go_wp2_with fail
          go_loopw [15] (fun ii wr => ∃ (k : Nat), k ≤ m' ∧ ii = .int .i64 (k : Int) ∧ (∀ j, j < k → ¬ (ss.getD j 0 ∈ zs ∧ ss.getD j 0 ∈ ys ∧ ss.getD j 0 ∈ os)) ∧ Below WV.heap.size WV wr) (fun ii _ => m' - (intOf ii).toNat)
          case atStart => exact ⟨0, Nat.zero_le _, rfl, fun j hj => absurd hj (Nat.not_lt_zero j), Below.refl _ _⟩
          case round =>
            obtain ⟨k, hk, rfl, hno, hbw⟩ := hrel
            have HW := Lib.hid (And.intro hno hbw)
            have HB := Lib.hid (HV.out.trans (hbw.mono HV.out.size))
            clear hno hbw
            by_cases hlt : k < m'
            · obtain ⟨b, off, rfl, hb, hc⟩ := HM.out.2.1.2.2.2 (by omega)
              have g1 := (HB.out.cell (p := ⟨b, off + k, none⟩) hb).trans (hc k hlt)
              have ik : (k : Int) < (m' : Int) := by omega
              have ik0 : (0 : Int) ≤ (k : Int) := by omega
              have hin := HH.out.2.1.getD_in k
              obtain ⟨z, hz⟩ : ∃ z, z = ss.getD k 0 := ⟨_, rfl⟩
              rw [← hz] at g1 hin
              have HC := Lib.hid (And.intro hb (show w.cell? ⟨b, off + k, none⟩ = some (.int .i64 z) by rw [hz]; exact hc k hlt))
              have HZ := Lib.hid (And.intro hz hin)
              obtain ⟨r1, hr1⟩ : ∃ r, r = decide (z ∈ zs) := ⟨_, rfl⟩
              obtain ⟨r2, hr2⟩ : ∃ r, r = decide (z ∈ ys) := ⟨_, rfl⟩
              obtain ⟨r3, hr3⟩ : ∃ r, r = decide (z ∈ os) := ⟨_, rfl⟩
              have K1 := Lib.hid (fun A m c W hi hm => CHX.out z hin r1 (by rw [HMAY.out, hr1]; rfl) A m c W hi hm)
              have K2 := Lib.hid (fun A m c W hi hm => CHY.out z hin r2 (by rw [HQ.out.2.2.2, hr2]; rfl) A m c W hi hm)
              have K3 := Lib.hid (fun W h => In_any A3 m3 c3 os z W h r3 hr3)
              have HR := Lib.hid (And.intro hr1 (And.intro hr2 hr3))
              clear hb hc hz hin hr1 hr2 hr3
              by_cases hall : r1 = true ∧ r2 = true ∧ r3 = true
              · obtain ⟨rfl, rfl, rfl⟩ := hall
                go_wp2_with (first
                  | (go_at_call 10; go_must (refine (sure_any C _).mono ?_; rintro y w3 ⟨rfl, hb3⟩; have HB3 := Lib.hid (HB2.out.trans (hb3.mono HB2.out.size)); clear hb3))
                  | (go_at_call 19; have h0 := G2.out; go_must (refine (K2.out _ _ _ _ (J2.out.below HW2.out) HL.out).mono ?_; rintro y w2 ⟨rfl, hb2⟩; have HW2 := Lib.hid (HW2.out.trans (hb2.mono HW2.out.size)); have HB2 := Lib.hid (HV.out.trans (HW2.out.mono HV.out.size)); have g3 := (HB2.out.cell (p := ⟨b, off + k, none⟩) HC.out.1).trans HC.out.2; clear hb2 h0))
                  | (go_at_call 19; go_must (refine (K1.out _ _ _ _ (J1.out.below HW.out.2) HN.out.1).mono ?_; rintro y w2 ⟨rfl, hb2⟩; have HW2 := Lib.hid (HW.out.2.trans (hb2.mono HW.out.2.size)); have HB2 := Lib.hid (HV.out.trans (HW2.out.mono HV.out.size)); have g2 := (HB2.out.cell (p := ⟨b, off + k, none⟩) HC.out.1).trans HC.out.2; have G2 := Lib.hid trivial; clear hb2))
                  | (go_at_call 23; go_must (refine (K3.out _ (HH.out.2.2.below HB2.out)).mono ?_; rintro y w2 ⟨rfl, hb2⟩; have HB2 := Lib.hid (HB2.out.trans (hb2.mono HB2.out.size)); clear hb2)))
                go_ret
                exact ⟨rfl, HB3.out⟩
              · have hn : ¬ (z ∈ zs ∧ z ∈ ys ∧ z ∈ os) := fun e => hall ⟨HR.out.1.trans (decide_eq_true e.1), HR.out.2.1.trans (decide_eq_true e.2.1), HR.out.2.2.trans (decide_eq_true e.2.2)⟩
                have HNX := Lib.hid (fun j (hj : j < k + 1) => show ¬ (ss.getD j 0 ∈ zs ∧ ss.getD j 0 ∈ ys ∧ ss.getD j 0 ∈ os) from by
                  by_cases hjk : j < k
                  · exact HW.out.1 j hjk
                  · obtain rfl : j = k := by omega
                    rw [← HZ.out.1]; exact hn)
                have hcs : r1 = false ∨ (r1 = true ∧ r2 = false) ∨ (r1 = true ∧ r2 = true ∧ r3 = false) := by
                  cases r1 <;> cases r2 <;> cases r3 <;> simp_all
                clear hn hall
                rcases hcs with rfl | ⟨rfl, rfl⟩ | ⟨rfl, rfl, rfl⟩
                all_goals
                  go_wp2_with (first
                    | (go_at_call 19; have h0 := G2.out; go_must (refine (K2.out _ _ _ _ (J2.out.below HW2.out) HL.out).mono ?_; rintro y w2 ⟨rfl, hb2⟩; have HW2 := Lib.hid (HW2.out.trans (hb2.mono HW2.out.size)); have HB2 := Lib.hid (HV.out.trans (HW2.out.mono HV.out.size)); have g3 := (HB2.out.cell (p := ⟨b, off + k, none⟩) HC.out.1).trans HC.out.2; clear hb2 h0))
                    | (go_at_call 19; go_must (refine (K1.out _ _ _ _ (J1.out.below HW.out.2) HN.out.1).mono ?_; rintro y w2 ⟨rfl, hb2⟩; have HW2 := Lib.hid (HW.out.2.trans (hb2.mono HW.out.2.size)); have HB2 := Lib.hid (HV.out.trans (HW2.out.mono HV.out.size)); have g2 := (HB2.out.cell (p := ⟨b, off + k, none⟩) HC.out.1).trans HC.out.2; have G2 := Lib.hid trivial; clear hb2))
                    | (go_at_call 23; go_must (refine (K3.out _ (HH.out.2.2.below HB2.out)).mono ?_; rintro y w2 ⟨rfl, hb2⟩; have HW2 := Lib.hid (HW2.out.trans (hb2.mono HW2.out.size)); clear hb2)))
                  go_roundw
                  case rel => exact ⟨k + 1, by omega, by go_num, HNX.out, HW2.out⟩
                  case measure => simp [intOf]; omega
            · exfalso
              obtain ⟨z, hz, hzx, hzy, hzo⟩ := meetC HQ.out.2.2.1 HQ.out.1.symm HQ.out.2.1.symm
              obtain ⟨j, hj, rfl⟩ := mem_getD.1 hz
              exact HW.out.1 j (by have := HM.out.2.1.1; omega) ⟨hzx, hzy, hzo⟩
        all_goals
          go_wp2_with (first
            | (go_at_call 10; go_must (refine (sure_any C _).mono ?_; rintro y w1 ⟨rfl, hb1⟩; have HB := Lib.hid (HB.out.trans (hb1.mono HB.out.size)); clear hb1))
            | (go_at_call 22; go_must (refine (CC.out _ _ _ _ I1.out HN.out.1).mono ?_; rintro y w1 ⟨rfl, hb1⟩; have HB := Lib.hid (HB.out.trans (hb1.mono HB.out.size)); (first | have I1 := Lib.hid (I1.out.below hb1) | skip); (first | have I2 := Lib.hid (I2.out.below hb1) | skip); clear hb1))
            | (go_at_call 11; have h0 := F1.out; go_must (refine (CQ2.out _ _ _ _ _ _ _ I2.out (HH.out.2.2.below HB.out) HL.out HN.out.2.2).mono ?_; rintro y w1 ⟨rfl, hb1⟩; have HB := Lib.hid (HB.out.trans (hb1.mono HB.out.size)); (first | have I1 := Lib.hid (I1.out.below hb1) | skip); (first | have I2 := Lib.hid (I2.out.below hb1) | skip); clear hb1 h0))
            | (go_at_call 11; go_must (refine (CQ.out _ _ _ _ _ _ _ I1.out (HH.out.2.1.below HB.out) HN.out.1 HN.out.2.1).mono ?_; rintro y w1 ⟨rfl, hb1⟩; have HB := Lib.hid (HB.out.trans (hb1.mono HB.out.size)); (first | have I1 := Lib.hid (I1.out.below hb1) | skip); (first | have I2 := Lib.hid (I2.out.below hb1) | skip); clear hb1; have F1 := Lib.hid trivial))
            | (go_at_call 14; go_must (refine (CN.out _ _ _ _ _ _ _ I1.out I2.out HN.out.1 HL.out).mono ?_; rintro y w1 ⟨rfl, hb1⟩; have HB := Lib.hid (HB.out.trans (hb1.mono HB.out.size)); (first | have I1 := Lib.hid (I1.out.below hb1) | skip); (first | have I2 := Lib.hid (I2.out.below hb1) | skip); clear hb1)))
          go_ret
          exact ⟨rfl, HB.out⟩

end Go.Proofs.Ytgnonfnipifbiaa.pk
