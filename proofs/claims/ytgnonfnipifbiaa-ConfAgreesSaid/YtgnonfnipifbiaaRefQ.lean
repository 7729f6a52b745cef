/-
  The document's own Quorum and Near: walked.
-/
import Derived.Test.YtgnonfnipifbiaaRefC
namespace Go.Proofs.Ytgnonfnipifbiaa.pk
open Go Go.RowKit
set_option maxRecDepth 100000

set_option maxHeartbeats 2000000 in
theorem Quorum_any (A : Option Addr) (m c : Nat) (zs : List Int) (A' : Option Addr) (m' c' : Nat) (ss : List Int) (w : World) (h : Ints w (.slice A m c) zs) (h' : Ints w (.slice A' m' c') ss) (hb : m ≤ 1000000000) (r : Bool) (hr : r = quorumC zs ss) :
    Calls Try.prog 13 #[.slice A m c, .slice A' m' c'] w fun y w' => y = .returned (.bool r) ∧ Below w.heap.size w w' := by
  obtain ⟨hm, hmc, hcm, hat⟩ := h.at_
  have im : (m : Int) ≤ 1000000000 := by omega
  have HM := Lib.hid (And.intro hm (And.intro hat hr))
  have HH := Lib.hid (And.intro h h')
  clear h h' hm hmc hcm hat hr hb
  go_enter Try.func13, Try.ntmps13
  go_wp2_with fail
  go_loopw [5, 6] (fun nn ii wr => ∃ (k n : Nat), k ≤ m ∧ n ≤ k ∧ nn = .int .i64 (n : Int) ∧ ii = .int .i64 (k : Int) ∧ n = cntC (zs.take k) ss ∧ Below w.heap.size w wr) (fun _ ii _ => m - (intOf ii).toNat)
  case atStart => exact ⟨0, 0, Nat.zero_le _, Nat.le_refl _, rfl, rfl, by simp [cntC], Below.refl _ _⟩
  case round =>
    obtain ⟨k, n, hk, hn, rfl, rfl, hno, hbw⟩ := hrel
    have HW := Lib.hid (And.intro hno hbw)
    clear hno hbw
    have in0 : (n : Int) ≤ 1000000000 := by omega
    by_cases hlt : k < m
    · obtain ⟨b, off, rfl, hb, hc⟩ := HM.out.2.1 (by omega)
      have g1 := (HW.out.2.cell (p := ⟨b, off + k, none⟩) hb).trans (hc k hlt)
      have ik : (k : Int) < (m : Int) := by omega
      have ik0 : (0 : Int) ≤ (k : Int) := by omega
      have hnx := cntC_next (c := zs) (s := ss) (k := k) (by have := HM.out.1; omega)
      obtain ⟨z, hz⟩ : ∃ z, z = zs.getD k 0 := ⟨_, rfl⟩
      rw [← hz] at g1 hnx
      have HC := Lib.hid (fun (W : World) (hW : Below w.heap.size w W) => In_any A' m' c' ss z W (HH.out.2.below hW) _ rfl)
      have HX := Lib.hid hnx
      clear hb hc hz hnx
      by_cases hz : z ∈ ss
      · have hx := HX.out
        rw [if_pos hz] at hx
        have HX := Lib.hid hx
        have HC := Lib.hid (fun W hW => by have h1 := HC.out W hW; rw [decide_eq_true hz] at h1; exact h1)
        clear hz hx
        go_wp2_with (go_at_call 23; go_must (refine (HC.out _ HW.out.2).mono ?_; rintro y w1 ⟨rfl, hb1⟩; have HB1 := Lib.hid (HW.out.2.trans (hb1.mono HW.out.2.size)); clear hb1))
        go_roundw
        case rel => exact ⟨k + 1, n + 1, by omega, by omega, by go_num, by go_num, by rw [HX.out, HW.out.1], HB1.out⟩
        case measure => simp [intOf]; omega
      · have hx := HX.out
        rw [if_neg hz] at hx
        have HX := Lib.hid hx
        have HC := Lib.hid (fun W hW => by have h1 := HC.out W hW; rw [decide_eq_false hz] at h1; exact h1)
        clear hz hx
        go_wp2_with (go_at_call 23; go_must (refine (HC.out _ HW.out.2).mono ?_; rintro y w1 ⟨rfl, hb1⟩; have HB1 := Lib.hid (HW.out.2.trans (hb1.mono HW.out.2.size)); clear hb1))
        go_roundw
        case rel => exact ⟨k + 1, n, by omega, by omega, rfl, by go_num, by rw [HX.out, HW.out.1, Nat.add_zero], HB1.out⟩
        case measure => simp [intOf]; omega
    · obtain rfl : k = m := by omega
      have ik : ¬ (k : Int) < (k : Int) := by omega
      have hall : n = cntC zs ss := by
        have h1 := HW.out.1
        rw [List.take_of_length_le (by have := HM.out.1; omega)] at h1
        exact h1
      have hrd : r = (mayC zs && decide (k < 2 * n)) := by rw [HM.out.2.2, hall, HM.out.1]; rfl
      have HC := Lib.hid (May_any A k c zs)
      obtain ⟨q, hq⟩ : ∃ q, q = mayC zs := ⟨_, rfl⟩
      rw [← hq] at hrd HC
      clear hall hq
      cases q with
      | false =>
        have hrf : r = false := by rw [hrd]; rfl
        subst hrf
        clear hrd
        go_wp2_with (go_at_call 27; go_must (refine (HC.out _ (HH.out.1.below HW.out.2) _ rfl).mono ?_; rintro y w1 ⟨rfl, hb1⟩; have HB1 := Lib.hid (HW.out.2.trans (hb1.mono HW.out.2.size)); clear hb1))
        go_ret
        exact ⟨rfl, HB1.out⟩
      | true =>
        by_cases h2 : k < 2 * n
        · have i2 : (k : Int) < 2 * (n : Int) := by omega
          have hrf : r = true := by rw [hrd, decide_eq_true h2]; rfl
          subst hrf
          clear hrd
          go_wp2_with (go_at_call 27; go_must (refine (HC.out _ (HH.out.1.below HW.out.2) _ rfl).mono ?_; rintro y w1 ⟨rfl, hb1⟩; have HB1 := Lib.hid (HW.out.2.trans (hb1.mono HW.out.2.size)); clear hb1))
          go_ret
          exact ⟨by simp [i2], HB1.out⟩
        · have i2 : ¬ (k : Int) < 2 * (n : Int) := by omega
          have hrf : r = false := by rw [hrd, decide_eq_false h2]; rfl
          subst hrf
          clear hrd
          go_wp2_with (go_at_call 27; go_must (refine (HC.out _ (HH.out.1.below HW.out.2) _ rfl).mono ?_; rintro y w1 ⟨rfl, hb1⟩; have HB1 := Lib.hid (HW.out.2.trans (hb1.mono HW.out.2.size)); clear hb1))
          go_ret
          exact ⟨by simp [i2], HB1.out⟩

theorem near_end {a b : List Int} {k j n m : Nat} (hn : n = diffC (a.take k) b) (hm : m = diffC (b.take j) a) (hk : k = a.length ∨ k = 8) (hj : j = b.length ∨ j = 8) (ha : k ≤ a.length) (hb : j ≤ b.length) :
    nearC a b = (mayC a && mayC b && decide (n + m < 2)) := by
  unfold nearC
  cases h1 : mayC a with
  | false => rfl
  | true =>
    cases h2 : mayC b with
    | false => rfl
    | true =>
      have l1 := ((mayC_iff a).1 h1).1
      have l2 := ((mayC_iff b).1 h2).1
      rw [List.take_of_length_le (by omega)] at hn
      rw [List.take_of_length_le (by omega)] at hm
      rw [hn, hm]

set_option maxHeartbeats 4000000 in
theorem Near_any (A : Option Addr) (m c : Nat) (zs : List Int) (A' : Option Addr) (m' c' : Nat) (ss : List Int) (w : World) (h : Ints w (.slice A m c) zs) (h' : Ints w (.slice A' m' c') ss) (r : Bool) (hr : r = nearC zs ss) :
    Calls Try.prog 15 #[.slice A m c, .slice A' m' c'] w fun y w' => y = .returned (.bool r) ∧ Below w.heap.size w w' := by
  obtain ⟨hm, hmc, hcm, hat⟩ := h.at_
  obtain ⟨hm', hmc', hcm', hat'⟩ := h'.at_
  have im : (m : Int) ≤ 9223372036854775807 := by omega
  have im' : (m' : Int) ≤ 9223372036854775807 := by omega
  have HM := Lib.hid (And.intro hm (And.intro hat hr))
  have HM' := Lib.hid (And.intro hm' hat')
  have HH := Lib.hid (And.intro h h')
  clear h h' hm hmc hcm hat hr hm' hmc' hcm' hat'
  go_enter Try.func15, Try.ntmps15
  go_upto_block 0 with fail
  go_cut [5] (fun nn W => ∃ (k n : Nat), k ≤ m ∧ k ≤ 8 ∧ (k = m ∨ k = 8) ∧ n ≤ k ∧ nn = .int .i64 (n : Int) ∧ n = diffC (zs.take k) ss ∧ Below w.heap.size w W)
  case first =>
    go_wp2_with fail
    go_loopw [5, 6] (fun nn ii wr => ∃ (k n : Nat), k ≤ m ∧ k ≤ 8 ∧ n ≤ k ∧ nn = .int .i64 (n : Int) ∧ ii = .int .i64 (k : Int) ∧ n = diffC (zs.take k) ss ∧ Below w.heap.size w wr) (fun _ ii _ => m - (intOf ii).toNat)
    case atStart => exact ⟨0, 0, Nat.zero_le _, by omega, Nat.le_refl _, rfl, rfl, by simp [diffC], Below.refl _ _⟩
    case round =>
      obtain ⟨k, n, hk, hk8, hn, rfl, rfl, hno, hbw⟩ := hrel
      have HW := Lib.hid (And.intro hno hbw)
      clear hno hbw
      have in0 : (n : Int) ≤ 8 := by omega
      by_cases hlt : k < m
      · have ik : (k : Int) < (m : Int) := by omega
        by_cases h8 : k < 8
        · have i8 : (k : Int) < 8 := by omega
          obtain ⟨b, off, rfl, hb, hc⟩ := HM.out.2.1 (by omega)
          have g1 := (HW.out.2.cell (p := ⟨b, off + k, none⟩) hb).trans (hc k hlt)
          have ik0 : (0 : Int) ≤ (k : Int) := by omega
          have hnx := diffC_next (a := zs) (b := ss) (k := k) (by have := HM.out.1; omega)
          obtain ⟨z, hz⟩ : ∃ z, z = zs.getD k 0 := ⟨_, rfl⟩
          rw [← hz] at g1 hnx
          have HC := Lib.hid (fun (W : World) (hW : Below w.heap.size w W) => In_any A' m' c' ss z W (HH.out.2.below hW) _ rfl)
          have HX := Lib.hid hnx
          clear hb hc hz hnx
          by_cases hz : z ∈ ss
          · have hx := HX.out
            rw [if_pos hz] at hx
            have HX := Lib.hid hx
            have HC := Lib.hid (fun W hW => by have h1 := HC.out W hW; rw [decide_eq_true hz] at h1; exact h1)
            clear hz hx
            go_wp2_with (go_at_call 23; go_must (refine (HC.out _ HW.out.2).mono ?_; rintro y w1 ⟨rfl, hb1⟩; have HB1 := Lib.hid (HW.out.2.trans (hb1.mono HW.out.2.size)); clear hb1))
            go_roundw
            case rel => exact ⟨k + 1, n, by omega, by omega, by omega, rfl, by go_num, by rw [HX.out, HW.out.1, Nat.add_zero], HB1.out⟩
            case measure => simp [intOf]; omega
          · have hx := HX.out
            rw [if_neg hz] at hx
            have HX := Lib.hid hx
            have HC := Lib.hid (fun W hW => by have h1 := HC.out W hW; rw [decide_eq_false hz] at h1; exact h1)
            clear hz hx
            go_wp2_with (go_at_call 23; go_must (refine (HC.out _ HW.out.2).mono ?_; rintro y w1 ⟨rfl, hb1⟩; have HB1 := Lib.hid (HW.out.2.trans (hb1.mono HW.out.2.size)); clear hb1))
            go_roundw
            case rel => exact ⟨k + 1, n + 1, by omega, by omega, by omega, by go_num, by go_num, by rw [HX.out, HW.out.1], HB1.out⟩
            case measure => simp [intOf]; omega
        · obtain rfl : k = 8 := by omega
          go_wp2_with fail
          go_meet
          exact ⟨8, n, hk, by omega, Or.inr rfl, hn, rfl, HW.out.1, HW.out.2⟩
      · have ik : ¬ (k : Int) < (m : Int) := by omega
        go_wp2_with fail
        go_meet
        exact ⟨k, n, hk, hk8, Or.inl (by omega), hn, rfl, HW.out.1, HW.out.2⟩
  case rest =>
    obtain ⟨k1, n1, hk1, hk18, he1, hn1, rfl, hno1, hbw1⟩ := hcut
    have H1 := Lib.hid (And.intro hno1 (And.intro hbw1 (And.intro hk1 he1)))
    have in1 : (n1 : Int) ≤ 8 := by omega
    clear hno1 hbw1 hk1 hk18 he1
    go_wp2_with fail
    go_loopw [5, 7] (fun nn ii wr => ∃ (k n : Nat), k ≤ m' ∧ k ≤ 8 ∧ n ≤ k ∧ nn = .int .i64 ((n1 + n : Nat) : Int) ∧ ii = .int .i64 (k : Int) ∧ n = diffC (ss.take k) zs ∧ Below w.heap.size w wr) (fun _ ii _ => m' - (intOf ii).toNat)
    case atStart => exact ⟨0, 0, Nat.zero_le _, by omega, Nat.le_refl _, rfl, rfl, by simp [diffC], H1.out.2.1⟩
    case round =>
      obtain ⟨k, n, hk, hk8, hn, rfl, rfl, hno, hbw⟩ := hrel
      have HW := Lib.hid (And.intro hno hbw)
      clear hno hbw
      have in0 : ((n1 + n : Nat) : Int) ≤ 16 := by omega
      by_cases hlt : k < m' ∧ k < 8
      · obtain ⟨hlt, h8⟩ := hlt
        have ik : (k : Int) < (m' : Int) := by omega
        have i8 : (k : Int) < 8 := by omega
        obtain ⟨b, off, rfl, hb, hc⟩ := HM'.out.2 (by omega)
        have g1 := (HW.out.2.cell (p := ⟨b, off + k, none⟩) hb).trans (hc k hlt)
        have ik0 : (0 : Int) ≤ (k : Int) := by omega
        have hnx := diffC_next (a := ss) (b := zs) (k := k) (by have := HM'.out.1; omega)
        obtain ⟨z, hz⟩ : ∃ z, z = ss.getD k 0 := ⟨_, rfl⟩
        rw [← hz] at g1 hnx
        have HC := Lib.hid (fun (W : World) (hW : Below w.heap.size w W) => In_any A m c zs z W (HH.out.1.below hW) _ rfl)
        have HX := Lib.hid hnx
        clear hb hc hz hnx
        by_cases hz : z ∈ zs
        · have hx := HX.out
          rw [if_pos hz] at hx
          have HX := Lib.hid hx
          have HC := Lib.hid (fun W hW => by have h1 := HC.out W hW; rw [decide_eq_true hz] at h1; exact h1)
          clear hz hx
          go_wp2_with (go_at_call 23; go_must (refine (HC.out _ HW.out.2).mono ?_; rintro y w1 ⟨rfl, hb1⟩; have HB1 := Lib.hid (HW.out.2.trans (hb1.mono HW.out.2.size)); clear hb1))
          go_roundw
          case rel => exact ⟨k + 1, n, by omega, by omega, by omega, rfl, by go_num, by rw [HX.out, HW.out.1, Nat.add_zero], HB1.out⟩
          case measure => simp [intOf]; omega
        · have hx := HX.out
          rw [if_neg hz] at hx
          have HX := Lib.hid hx
          have HC := Lib.hid (fun W hW => by have h1 := HC.out W hW; rw [decide_eq_false hz] at h1; exact h1)
          clear hz hx
          go_wp2_with (go_at_call 23; go_must (refine (HC.out _ HW.out.2).mono ?_; rintro y w1 ⟨rfl, hb1⟩; have HB1 := Lib.hid (HW.out.2.trans (hb1.mono HW.out.2.size)); clear hb1))
          go_roundw
          case rel => exact ⟨k + 1, n + 1, by omega, by omega, by omega, by go_num, by go_num, by rw [HX.out, HW.out.1], HB1.out⟩
          case measure => simp [intOf]; omega
      · have hend := near_end H1.out.1 HW.out.1 (by have := H1.out.2.2.2; have := HM.out.1; omega) (by have := HM'.out.1; omega) (by have := H1.out.2.2.1; have := HM.out.1; omega) (by have := HM'.out.1; omega)
        have hg : (¬ (k : Int) < (m' : Int)) ∨ ((k : Int) < (m' : Int) ∧ ¬ (k : Int) < 8) := by omega
        have hrd : r = (mayC zs && mayC ss && decide (n1 + n < 2)) := HM.out.2.2.trans hend
        have HC := Lib.hid (May_any A m c zs)
        have HC' := Lib.hid (May_any A' m' c' ss)
        obtain ⟨q, hq⟩ : ∃ q, q = mayC zs := ⟨_, rfl⟩
        obtain ⟨q', hq'⟩ : ∃ q, q = mayC ss := ⟨_, rfl⟩
        rw [← hq, ← hq'] at hrd
        rw [← hq] at HC
        rw [← hq'] at HC'
        have d2 : decide (((n1 + n : Nat) : Int) < 2) = decide (n1 + n < 2) := by
          by_cases h : n1 + n < 2
          · rw [decide_eq_true h]; exact decide_eq_true (by omega)
          · rw [decide_eq_false h]; exact decide_eq_false (by omega)
        obtain ⟨t, ht⟩ : ∃ t, t = decide (n1 + n < 2) := ⟨_, rfl⟩
        rw [← ht] at d2 hrd
        have HD := Lib.hid d2
        clear hend hq hq' ht hlt
        have HR := Lib.hid hrd
        obtain ⟨kn, hkn⟩ : ∃ kn, kn = ((n1 + n : Nat) : Int) := ⟨_, rfl⟩
        rw [← hkn] at d2 in0
        rw [← hkn]
        clear hrd hkn HD
        rcases hg with hg | ⟨hg1, hg2⟩
        all_goals
          cases q
          case' true => cases q'
          all_goals
            go_wp2_with (first
              | (go_at_call 27; go_must (first
                | (refine (HC'.out _ (HH.out.2.below HB1.out) _ rfl).mono ?_; rintro y w1 ⟨rfl, hb1⟩; have HB2 := Lib.hid (HB1.out.trans (hb1.mono HB1.out.size)); clear hb1)
                | (refine (HC.out _ (HH.out.1.below HW.out.2) _ rfl).mono ?_; rintro y w1 ⟨rfl, hb1⟩; have HB1 := Lib.hid (HW.out.2.trans (hb1.mono HW.out.2.size)); clear hb1))))
            go_ret
            first
              | exact ⟨by rw [HR.out]; rfl, HB2.out⟩
              | exact ⟨by rw [HR.out]; rfl, HB1.out⟩
              | exact ⟨by rw [HR.out]; simp [d2], HB2.out⟩

end Go.Proofs.Ytgnonfnipifbiaa.pk
