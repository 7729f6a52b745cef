/-
  The laws ConfQuorums, ConfAgrees, ConfCounts, ConfNears: walked.
-/
import Derived.Test.YtgnonfnipifbiaaConC
namespace Go.Proofs.Ytgnonfnipifbiaa.pk
open Go Go.RowKit
set_option maxRecDepth 100000

set_option maxHeartbeats 4000000 in
theorem counts_true (C : ConC) (A : Option Addr) (m c : Nat) (zs : List Int) (A' : Option Addr) (m' c' : Nat) (ss : List Int) (w : World) (h : Ints w (.slice A m c) zs) (h' : Ints w (.slice A' m' c') ss) :
    Calls Try.prog 8 #[.slice A m c, .slice A' m' c'] w fun y w' => y = .returned (.bool true) ∧ Below w.heap.size w w' := by
  have HH := Lib.hid (And.intro h h')
  have HB := Lib.hid (Below.refl w.heap.size w)
  obtain ⟨q, hq⟩ : ∃ q, q = quorumC zs ss := ⟨_, rfl⟩
  have HQ := Lib.hid hq
  have CQ := Lib.hid fun A m c A' m' c' (W : World) h h' h1 h2 => C.cQuorum A m c zs A' m' c' ss W h h' h1 h2 q hq
  clear h h' hq
  by_cases hbig : 300 < m ∨ 300 < m'
  · have hg : (300 < (m : Int)) ∨ (¬ 300 < (m : Int) ∧ 300 < (m' : Int)) := by omega
    clear hbig
    rcases hg with hg | ⟨hg1, hg2⟩
    all_goals
      go_enter Try.func8, Try.ntmps8
      go_wp2_with (go_at_call 10; go_must (refine (sure_any C _).mono ?_; rintro y w1 ⟨rfl, hb1⟩; have HB := Lib.hid (HB.out.trans (hb1.mono HB.out.size)); clear hb1))
      go_ret
      exact ⟨rfl, HB.out⟩
  · have i1 : ¬ 300 < (m : Int) := by omega
    have i2 : ¬ 300 < (m' : Int) := by omega
    have HN := Lib.hid (show m ≤ 300 ∧ m' ≤ 300 by omega)
    clear hbig
    go_enter Try.func8, Try.ntmps8
    go_wp2_with (first
      | (go_at_call 10; go_must (refine (sure_any C _).mono ?_; rintro y w1 ⟨rfl, hb1⟩; have HB := Lib.hid (HB.out.trans (hb1.mono HB.out.size)); clear hb1))
      | (go_at_call 12; first
        | (refine (own_any A m c zs _ (HH.out.1.below HB.out) (by have := HN.out; omega)).mono ?_; rintro y w1 ⟨A1, c1, rfl, hi1, hb1⟩; have HB := Lib.hid (HB.out.trans (hb1.mono HB.out.size)); have I1 := Lib.hid hi1; clear hi1 hb1)
        | (refine (own_any A' m' c' ss _ (HH.out.2.below HB.out) (by have := HN.out; omega)).mono ?_; rintro y w1 ⟨A2, c2, rfl, hi1, hb1⟩; have HB := Lib.hid (HB.out.trans (hb1.mono HB.out.size)); have I1 := Lib.hid (I1.out.below hb1); have I2 := Lib.hid hi1; clear hi1 hb1))
      | (go_at_call 11; go_must (refine (CQ.out _ _ _ _ _ _ _ I1.out I2.out HN.out.1 HN.out.2).mono ?_; rintro y w1 ⟨rfl, hb1⟩; have HB := Lib.hid (HB.out.trans (hb1.mono HB.out.size)); clear hb1))
      | (go_at_call 13; go_must (refine (Quorum_any A m c zs A' m' c' ss _ (HH.out.1.below HB.out) (HH.out.2.below HB.out) (by have := HN.out; omega) q HQ.out).mono ?_; rintro y w1 ⟨rfl, hb1⟩; have HB := Lib.hid (HB.out.trans (hb1.mono HB.out.size)); clear hb1)))
    go_ret
    exact ⟨rfl, HB.out⟩


set_option maxHeartbeats 4000000 in
theorem nears_true (C : ConC) (A : Option Addr) (m c : Nat) (zs : List Int) (A' : Option Addr) (m' c' : Nat) (ss : List Int) (w : World) (h : Ints w (.slice A m c) zs) (h' : Ints w (.slice A' m' c') ss) :
    Calls Try.prog 9 #[.slice A m c, .slice A' m' c'] w fun y w' => y = .returned (.bool true) ∧ Below w.heap.size w w' := by
  have HH := Lib.hid (And.intro h h')
  have HB := Lib.hid (Below.refl w.heap.size w)
  obtain ⟨q, hq⟩ : ∃ q, q = nearC zs ss := ⟨_, rfl⟩
  have HQ := Lib.hid hq
  have CQ := Lib.hid fun A m c A' m' c' (W : World) h h' h1 h2 => C.cNear A m c zs A' m' c' ss W h h' h1 h2 q hq
  have CQ' := Lib.hid fun A m c A' m' c' (W : World) h h' h1 h2 => C.cNear A m c ss A' m' c' zs W h h' h1 h2 q (hq.trans (nearC_comm zs ss))
  clear h h' hq
  by_cases hbig : 300 < m ∨ 300 < m'
  · have hg : (300 < (m : Int)) ∨ (¬ 300 < (m : Int) ∧ 300 < (m' : Int)) := by omega
    clear hbig
    rcases hg with hg | ⟨hg1, hg2⟩
    all_goals
      go_enter Try.func9, Try.ntmps9
      go_wp2_with (go_at_call 10; go_must (refine (sure_any C _).mono ?_; rintro y w1 ⟨rfl, hb1⟩; have HB := Lib.hid (HB.out.trans (hb1.mono HB.out.size)); clear hb1))
      go_ret
      exact ⟨rfl, HB.out⟩
  · have i1 : ¬ 300 < (m : Int) := by omega
    have i2 : ¬ 300 < (m' : Int) := by omega
    have HN := Lib.hid (show m ≤ 300 ∧ m' ≤ 300 by omega)
    clear hbig
    go_enter Try.func9, Try.ntmps9
    go_wp2_with (first
      | (go_at_call 10; go_must (refine (sure_any C _).mono ?_; rintro y w1 ⟨rfl, hb1⟩; have HB := Lib.hid (HB.out.trans (hb1.mono HB.out.size)); clear hb1))
      | (go_at_call 12; first
        | (refine (own_any A m c zs _ (HH.out.1.below HB.out) (by have := HN.out; omega)).mono ?_; rintro y w1 ⟨A1, c1, rfl, hi1, hb1⟩; have HB := Lib.hid (HB.out.trans (hb1.mono HB.out.size)); (first | have I2 := Lib.hid (I2.out.below hb1) | skip); have I1 := Lib.hid hi1; clear hi1 hb1)
        | (refine (own_any A' m' c' ss _ (HH.out.2.below HB.out) (by have := HN.out; omega)).mono ?_; rintro y w1 ⟨A2, c2, rfl, hi1, hb1⟩; have HB := Lib.hid (HB.out.trans (hb1.mono HB.out.size)); (first | have I1 := Lib.hid (I1.out.below hb1) | skip); have I2 := Lib.hid hi1; clear hi1 hb1))
      | (go_at_call 14; have h0 := F2.out; go_must (refine (CQ.out _ _ _ _ _ _ _ I1.out I2.out HN.out.1 HN.out.2).mono ?_; rintro y w1 ⟨rfl, hb1⟩; have HB := Lib.hid (HB.out.trans (hb1.mono HB.out.size)); clear hb1; clear h0))
      | (go_at_call 14; have h0 := F1.out; go_must (refine (CQ'.out _ _ _ _ _ _ _ I2.out I1.out HN.out.2 HN.out.1).mono ?_; rintro y w1 ⟨rfl, hb1⟩; have HB := Lib.hid (HB.out.trans (hb1.mono HB.out.size)); clear hb1; clear h0; have F2 := Lib.hid trivial))
      | (go_at_call 14; go_must (refine (CQ.out _ _ _ _ _ _ _ I1.out I2.out HN.out.1 HN.out.2).mono ?_; rintro y w1 ⟨rfl, hb1⟩; have HB := Lib.hid (HB.out.trans (hb1.mono HB.out.size)); clear hb1; have F1 := Lib.hid trivial))
      | (go_at_call 15; go_must (refine (Near_any A m c zs A' m' c' ss _ (HH.out.1.below HB.out) (HH.out.2.below HB.out) q HQ.out).mono ?_; rintro y w1 ⟨rfl, hb1⟩; have HB := Lib.hid (HB.out.trans (hb1.mono HB.out.size)); clear hb1)))
    go_ret
    exact ⟨rfl, HB.out⟩

set_option maxHeartbeats 4000000 in
theorem agrees_true (C : ConC) (A : Option Addr) (m c : Nat) (zs : List Int) (A' : Option Addr) (m' c' : Nat) (l : List (Int × Int)) (w : World) (h : Ints w (.slice A m c) zs) (h' : Marks w (.slice A' m' c') l) :
    Calls Try.prog 6 #[.slice A m c, .slice A' m' c'] w fun y w' => y = .returned (.bool true) ∧ Below w.heap.size w w' := by
  have HH := Lib.hid (And.intro h h')
  have HB := Lib.hid (Below.refl w.heap.size w)
  obtain ⟨q, hq⟩ : ∃ q, q = agreedC zs l := ⟨_, rfl⟩
  have HQ := Lib.hid hq
  have CQ := Lib.hid fun A m c A' m' c' (W : World) h h' h1 h2 => C.cAgreed A m c zs A' m' c' l W h h' h1 h2 q hq
  clear h h' hq
  by_cases hbig : 300 < m ∨ 200 < m'
  · have hg : (300 < (m : Int)) ∨ (¬ 300 < (m : Int) ∧ 200 < (m' : Int)) := by omega
    clear hbig
    rcases hg with hg | ⟨hg1, hg2⟩
    all_goals
      go_enter Try.func6, Try.ntmps6
      go_wp2_with (go_at_call 10; go_must (refine (sure_any C _).mono ?_; rintro y w1 ⟨rfl, hb1⟩; have HB := Lib.hid (HB.out.trans (hb1.mono HB.out.size)); clear hb1))
      go_ret
      exact ⟨rfl, HB.out⟩
  · have i1 : ¬ 300 < (m : Int) := by omega
    have i2 : ¬ 200 < (m' : Int) := by omega
    have HN := Lib.hid (show m ≤ 300 ∧ m' ≤ 300 by omega)
    clear hbig
    go_enter Try.func6, Try.ntmps6
    go_wp2_with (first
      | (go_at_call 10; go_must (refine (sure_any C _).mono ?_; rintro y w1 ⟨rfl, hb1⟩; have HB := Lib.hid (HB.out.trans (hb1.mono HB.out.size)); clear hb1))
      | (go_at_call 12; (refine (own_any A m c zs _ (HH.out.1.below HB.out) (by have := HN.out; omega)).mono ?_; rintro y w1 ⟨A1, c1, rfl, hi1, hb1⟩; have HB := Lib.hid (HB.out.trans (hb1.mono HB.out.size)); (first | have I2 := Lib.hid (I2.out.below hb1) | skip); have I1 := Lib.hid hi1; clear hi1 hb1))
      | (go_at_call 17; go_must (refine (marks_any A' m' c' l _ (HH.out.2.below HB.out) (by have := HN.out; omega)).mono ?_; rintro y w1 ⟨A2, c2, rfl, hi1, hb1⟩; have HB := Lib.hid (HB.out.trans (hb1.mono HB.out.size)); have I1 := Lib.hid (I1.out.below hb1); have I2 := Lib.hid hi1; clear hi1 hb1))
      | (go_at_call 16; go_must (refine (CQ.out _ _ _ _ _ _ _ I1.out I2.out HN.out.1 HN.out.2).mono ?_; rintro y w1 ⟨rfl, hb1⟩; have HB := Lib.hid (HB.out.trans (hb1.mono HB.out.size)); clear hb1))
      | (go_at_call 18; go_must (refine (Agreed_any A m c zs A' m' c' l _ (HH.out.1.below HB.out) (HH.out.2.below HB.out) (by have := HN.out; omega) (by have := HN.out; omega) q HQ.out).mono ?_; rintro y w1 ⟨rfl, hb1⟩; have HB := Lib.hid (HB.out.trans (hb1.mono HB.out.size)); clear hb1)))
    go_ret
    exact ⟨rfl, HB.out⟩

set_option maxHeartbeats 8000000 in
theorem quorums_true (C : ConC) (A : Option Addr) (m c : Nat) (zs : List Int) (A' : Option Addr) (m' c' : Nat) (ss : List Int) (A3 : Option Addr) (m3 c3 : Nat) (l : List (Int × Int)) (w : World) (h : Ints w (.slice A m c) zs) (h' : Ints w (.slice A' m' c') ss) (h3 : Marks w (.slice A3 m3 c3) l) :
    Calls Try.prog 3 #[.slice A m c, .slice A' m' c', .slice A3 m3 c3] w fun y w' => y = .returned (.bool true) ∧ Below w.heap.size w w' := by
  have HH := Lib.hid (And.intro h (And.intro h' h3))
  have HB := Lib.hid (Below.refl w.heap.size w)
  obtain ⟨q, hq⟩ : ∃ q, q = quorumC zs ss := ⟨_, rfl⟩
  obtain ⟨n, hn⟩ : ∃ q, q = nearC zs ss := ⟨_, rfl⟩
  obtain ⟨g, hg⟩ : ∃ q, q = agreedC zs l := ⟨_, rfl⟩
  have HQ := Lib.hid (And.intro hq (And.intro hn hg))
  have CQ := Lib.hid fun A m c A' m' c' (W : World) h h' h1 h2 => C.cQuorum A m c zs A' m' c' ss W h h' h1 h2 q hq
  have CN := Lib.hid fun A m c A' m' c' (W : World) h h' h1 h2 => C.cNear A m c zs A' m' c' ss W h h' h1 h2 n hn
  have CA := Lib.hid fun A m c A' m' c' (W : World) h h' h1 h2 => C.cAgreed A m c zs A' m' c' l W h h' h1 h2 g hg
  clear h h' h3 hq hn hg
  by_cases hbig : 300 < m ∨ 300 < m' ∨ 300 < m3
  · have hg : (300 < (m : Int)) ∨ (¬ 300 < (m : Int) ∧ 300 < (m' : Int)) ∨ (¬ 300 < (m : Int) ∧ ¬ 300 < (m' : Int) ∧ 300 < (m3 : Int)) := by omega
    clear hbig
    rcases hg with hg | ⟨hg1, hg2⟩ | ⟨hg1, hg2, hg3⟩
    all_goals
      go_enter Try.func3, Try.ntmps3
      go_wp2_with (go_at_call 10; go_must (refine (sure_any C _).mono ?_; rintro y w1 ⟨rfl, hb1⟩; have HB := Lib.hid (HB.out.trans (hb1.mono HB.out.size)); clear hb1))
      go_ret
      exact ⟨rfl, HB.out⟩
  · have i1 : ¬ 300 < (m : Int) := by omega
    have i2 : ¬ 300 < (m' : Int) := by omega
    have i3 : ¬ 300 < (m3 : Int) := by omega
    have HN := Lib.hid (show m ≤ 300 ∧ m' ≤ 300 ∧ m3 ≤ 300 by omega)
    clear hbig
    go_enter Try.func3, Try.ntmps3
    go_wp2_with (first
      | (go_at_call 10; go_must (refine (sure_any C _).mono ?_; rintro y w1 ⟨rfl, hb1⟩; have HB := Lib.hid (HB.out.trans (hb1.mono HB.out.size)); clear hb1))
      | (go_at_call 12; first
        | (refine (own_any A m c zs _ (HH.out.1.below HB.out) (by have := HN.out; omega)).mono ?_; rintro y w1 ⟨A1, c1, rfl, hi1, hb1⟩; have HB := Lib.hid (HB.out.trans (hb1.mono HB.out.size)); (first | have I2 := Lib.hid (I2.out.below hb1) | skip); have I1 := Lib.hid hi1; clear hi1 hb1)
        | (refine (own_any A' m' c' ss _ (HH.out.2.1.below HB.out) (by have := HN.out; omega)).mono ?_; rintro y w1 ⟨A2, c2, rfl, hi1, hb1⟩; have HB := Lib.hid (HB.out.trans (hb1.mono HB.out.size)); (first | have I1 := Lib.hid (I1.out.below hb1) | skip); have I2 := Lib.hid hi1; clear hi1 hb1))
      | (go_at_call 17; go_must (refine (marks_any A3 m3 c3 l _ (HH.out.2.2.below HB.out) (by have := HN.out; omega)).mono ?_; rintro y w1 ⟨A4, c4, rfl, hi1, hb1⟩; have HB := Lib.hid (HB.out.trans (hb1.mono HB.out.size)); have I1 := Lib.hid (I1.out.below hb1); have I3 := Lib.hid hi1; clear hi1 hb1))
      | (go_at_call 11; go_must (refine (CQ.out _ _ _ _ _ _ _ I1.out I2.out HN.out.1 HN.out.2.1).mono ?_; rintro y w1 ⟨rfl, hb1⟩; have HB := Lib.hid (HB.out.trans (hb1.mono HB.out.size)); clear hb1))
      | (go_at_call 13; go_must (refine (Quorum_any A m c zs A' m' c' ss _ (HH.out.1.below HB.out) (HH.out.2.1.below HB.out) (by have := HN.out; omega) q HQ.out.1).mono ?_; rintro y w1 ⟨rfl, hb1⟩; have HB := Lib.hid (HB.out.trans (hb1.mono HB.out.size)); clear hb1))
      | (go_at_call 14; go_must (refine (CN.out _ _ _ _ _ _ _ I1.out I2.out HN.out.1 HN.out.2.1).mono ?_; rintro y w1 ⟨rfl, hb1⟩; have HB := Lib.hid (HB.out.trans (hb1.mono HB.out.size)); clear hb1))
      | (go_at_call 15; go_must (refine (Near_any A m c zs A' m' c' ss _ (HH.out.1.below HB.out) (HH.out.2.1.below HB.out) n HQ.out.2.1).mono ?_; rintro y w1 ⟨rfl, hb1⟩; have HB := Lib.hid (HB.out.trans (hb1.mono HB.out.size)); clear hb1))
      | (go_at_call 16; go_must (refine (CA.out _ _ _ _ _ _ _ I1.out I3.out HN.out.1 HN.out.2.2).mono ?_; rintro y w1 ⟨rfl, hb1⟩; have HB := Lib.hid (HB.out.trans (hb1.mono HB.out.size)); clear hb1))
      | (go_at_call 18; go_must (refine (Agreed_any A m c zs A3 m3 c3 l _ (HH.out.1.below HB.out) (HH.out.2.2.below HB.out) (by have := HN.out; omega) (by have := HN.out; omega) g HQ.out.2.2).mono ?_; rintro y w1 ⟨rfl, hb1⟩; have HB := Lib.hid (HB.out.trans (hb1.mono HB.out.size)); clear hb1)))
    go_ret
    exact ⟨rfl, HB.out⟩

end Go.Proofs.Ytgnonfnipifbiaa.pk
