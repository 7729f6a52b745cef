/-
  The law ConfMembers: walked.
-/
import Derived.Test.YtgnonfnipifbiaaDoorRefD
import Derived.Test.YtgnonfnipifbiaaDoorConC
import Derived.Test.YtgnonfnipifbiaaDoorNum
namespace Go.Proofs.YtgnonfnipifbiaaDoor.pk
open Go Go.RowKit
set_option maxRecDepth 100000

set_option maxHeartbeats 16000000 in
theorem members_true (C : ConC) (A : Option Addr) (m c : Nat) (zs : List Int) (who : Int) (w : World) (hs : Std w) (h : Ints w (.slice A m c) zs) (hw : inI who) :
    Calls Tryd.prog 3 #[.slice A m c, .int .i64 who] w fun y w' => y = .returned (.bool true) ∧ Below w.heap.size w w' := by
  have HH := Lib.hid h
  have HS := Lib.hid hs
  have HB := Lib.hid (Below.refl w.heap.size w)
  clear h
  by_cases hbig : 300 < m
  · have hg : 300 < (m : Int) := by omega
    clear hbig
    go_enter Tryd.func3, Tryd.ntmps3
    go_wp2_with (go_at_call 4; go_must (refine (sure_any C _).mono ?_; rintro y w1 ⟨rfl, hb1⟩; have HB := Lib.hid (HB.out.trans (hb1.mono HB.out.size)); clear hb1))
    go_ret
    exact ⟨rfl, HB.out⟩
  · have i1 : ¬ 300 < (m : Int) := by omega
    have HN := Lib.hid (show m ≤ 300 by omega)
    obtain ⟨ra, hra⟩ : ∃ r, r = addC zs who := ⟨_, rfl⟩
    obtain ⟨rr, hrr⟩ : ∃ r, r = remC zs who := ⟨_, rfl⟩
    have CA := Lib.hid fun A m c W h h2 => C.cAdd A m c zs who W h hw h2 ra hra
    have CR := Lib.hid fun A m c W h h2 => C.cRemove A m c zs who W h hw h2 rr hrr
    have CA' := Lib.hid fun W h => Add_any A m c zs who W h hw ra hra
    have CR' := Lib.hid fun W h => Remove_any A m c zs who W h rr hrr
    obtain ⟨la, ka⟩ := ra
    obtain ⟨lr, kr⟩ := rr
    have HW := Lib.hid hw
    clear hbig hra hrr
    go_enter Tryd.func3, Tryd.ntmps3
    go_upto_region 8 with (first
      | (go_at_call 5; go_must (refine (own_any A m c zs _ (HH.out.below HB.out) (by have := HN.out; omega)).mono ?_; rintro y w1 ⟨A1, c1, rfl, hi, hb1⟩; have HB := Lib.hid (HB.out.trans (hb1.mono HB.out.size)); (first | have I1 := Lib.hid (I1.out.below hb1) | skip); (first | have I2 := Lib.hid (I2.out.below hb1) | skip); (first | have I3 := Lib.hid (I3.out.below hb1) | skip); (first | have I4 := Lib.hid (I4.out.below hb1) | skip); (first | have I5 := Lib.hid (I5.out.below hb1) | skip); have I1 := Lib.hid hi; clear hi hb1))
      | (go_at_call 6; go_must (refine (CA.out _ _ _ _ I1.out HN.out).mono ?_; rintro y w1 ⟨A2, c2, rfl, hi, hb1⟩; have HB := Lib.hid (HB.out.trans (hb1.mono HB.out.size)); (first | have I1 := Lib.hid (I1.out.below hb1) | skip); (first | have I2 := Lib.hid (I2.out.below hb1) | skip); (first | have I3 := Lib.hid (I3.out.below hb1) | skip); (first | have I4 := Lib.hid (I4.out.below hb1) | skip); (first | have I5 := Lib.hid (I5.out.below hb1) | skip); have I2 := Lib.hid hi; clear hi hb1))
      | (go_at_call 7; go_must (refine (CA'.out _ (HH.out.below HB.out)).mono ?_; rintro y w1 ⟨A3, c3, rfl, hi, hb1⟩; have HB := Lib.hid (HB.out.trans (hb1.mono HB.out.size)); (first | have I1 := Lib.hid (I1.out.below hb1) | skip); (first | have I2 := Lib.hid (I2.out.below hb1) | skip); (first | have I3 := Lib.hid (I3.out.below hb1) | skip); (first | have I4 := Lib.hid (I4.out.below hb1) | skip); (first | have I5 := Lib.hid (I5.out.below hb1) | skip); have I3 := Lib.hid hi; clear hi hb1))
      | (go_at_call 8; go_must (refine (CR.out _ _ _ _ I1.out HN.out).mono ?_; rintro y w1 ⟨A4, c4, rfl, hi, hb1⟩; have HB := Lib.hid (HB.out.trans (hb1.mono HB.out.size)); (first | have I1 := Lib.hid (I1.out.below hb1) | skip); (first | have I2 := Lib.hid (I2.out.below hb1) | skip); (first | have I3 := Lib.hid (I3.out.below hb1) | skip); (first | have I4 := Lib.hid (I4.out.below hb1) | skip); (first | have I5 := Lib.hid (I5.out.below hb1) | skip); have I4 := Lib.hid hi; clear hi hb1))
      | (go_at_call 9; go_must (refine (CR'.out _ (HH.out.below HB.out)).mono ?_; rintro y w1 ⟨A5, c5, rfl, hi, hb1⟩; have HB := Lib.hid (HB.out.trans (hb1.mono HB.out.size)); (first | have I1 := Lib.hid (I1.out.below hb1) | skip); (first | have I2 := Lib.hid (I2.out.below hb1) | skip); (first | have I3 := Lib.hid (I3.out.below hb1) | skip); (first | have I4 := Lib.hid (I4.out.below hb1) | skip); (first | have I5 := Lib.hid (I5.out.below hb1) | skip); have I5 := Lib.hid hi; clear hi hb1)))
    have hbw := HB.out
    have J1 := I1.out
    obtain ⟨W8, hW8⟩ : ∃ W8, W8 = w1 := ⟨_, rfl⟩
    rw [← hW8] at hbw J1 I2 I3 I4 I5 ⊢
    have HB8 := Lib.hid hbw
    have RB := Lib.hid fun d os => below_regrown W8 d os
    have kI : ∀ (l : List Int) (B B' : Option Addr) (n e e' : Nat), Ints W8 (.slice B n e) l → Ints W8 (.slice B' n e') l → ∀ d os, Calls Tryd.prog 14 #[.slice B n e, .slice B' n e'] (Sort.grow (redrawn W8 d) os) fun e w'' => e = .returned (.bool true) ∧ ∃ p : Regrown, w'' = Sort.grow (redrawn W8 p.d) p.os :=
      fun l B B' n e e' h h' d os => Calls.regrown_of (ints_any _ _ _ l _ _ _ l _ (h.below (RB.out d os)) (h'.below (RB.out d os)) true (decide_eq_true rfl).symm)
    have kN : ∀ k d os, Calls Tryd.prog 15 #[er k] (Sort.grow (redrawn W8 d) os) fun e w'' => e = .returned (.int .i64 (k : Int)) ∧ ∃ p : Regrown, w'' = Sort.grow (redrawn W8 p.d) p.os :=
      fun k d os => Calls.regrown_of (num_any k _ ((HS.out.below HS.out.size hbw).below (Nat.le_trans HS.out.size hbw.size) (RB.out d os)))
    have j2 := I2.out
    have j3 := I3.out
    have j4 := I4.out
    have j5 := I5.out
    have j6 := HH.out.below hbw
    have kS : ∀ d os, Calls Tryd.prog 4 #[] (Sort.grow (redrawn W8 d) os) fun e w'' => e = .returned (.bool true) ∧ ∃ p : Regrown, w'' = Sort.grow (redrawn W8 p.d) p.os :=
      fun d os => Calls.regrown_of (sure_any C _)
    have kM := fun q (hq : q = mayC zs) => show ∀ d os, Calls Tryd.prog 11 #[.slice A m c] (Sort.grow (redrawn W8 d) os) fun e w'' => e = .returned (.bool q) ∧ ∃ p : Regrown, w'' = Sort.grow (redrawn W8 p.d) p.os from
      fun d os => Calls.regrown_of (May_any A m c zs _ ((HH.out.below hbw).below (RB.out d os)) q hq)
    have kH := fun q (hq : q = (mayC zs && decide (who ∈ zs))) => show ∀ d os, Calls Tryd.prog 12 #[.slice A1 m c1, .int .i64 who] (Sort.grow (redrawn W8 d) os) fun e w'' => e = .returned (.bool q) ∧ ∃ p : Regrown, w'' = Sort.grow (redrawn W8 p.d) p.os from
      fun d os => Calls.regrown_of (C.cHas A1 m c1 zs who _ (J1.below (RB.out d os)) HW.out HN.out q hq)
    have kC := fun k (hk : k = if mayC zs then 0 else 1) => show ∀ d os, Calls Tryd.prog 10 #[.slice A1 m c1] (Sort.grow (redrawn W8 d) os) fun e w'' => e = .returned (er k) ∧ ∃ p : Regrown, w'' = Sort.grow (redrawn W8 p.d) p.os from
      fun d os => Calls.regrown_of (C.cCheck A1 m c1 zs _ (J1.below (RB.out d os)) HN.out k hk)
    have kIn := fun q (hq : q = decide (who ∈ zs)) => show ∀ d os, Calls Tryd.prog 13 #[.slice A m c, .int .i64 who] (Sort.grow (redrawn W8 d) os) fun e w'' => e = .returned (.bool q) ∧ ∃ p : Regrown, w'' = Sort.grow (redrawn W8 p.d) p.os from
      fun d os => Calls.regrown_of (In_any A m c zs who _ ((HH.out.below hbw).below (RB.out d os)) q hq)
    clear hbw hW8 I1 I2 I3 I4 I5 CA CR CA' CR'
    cases hmay : mayC zs with
    | false =>
      have k1 := kC 1 (by rw [hmay]; rfl)
      have k2 := kM false hmay.symm
      have k3 := kH false (by rw [hmay]; rfl)
      rw [er_ne (by decide)] at k1
      clear kC kM kH kIn hmay
      refine wp_region_quiet_below (by kernel_rfl) (by kernel_rfl) ?_
      repeat (go_big_quiet_step (first | exact k1 _ _ | exact k2 _ _ | exact k3 _ _ | exact kN _ _ _ | exact kI _ _ _ _ _ _ (by assumption) (by assumption) _ _ | exact kS _ _))
      refine wpQuiet_nil ?_
      rintro W ⟨⟨dr, osr⟩, rfl⟩
      have hb9 := HB8.out.trans ((below_regrown W8 dr osr).mono HB8.out.size)
      go_wp2_with fail
      all_goals
        go_ret
        exact ⟨rfl, hb9⟩
    | true =>
      obtain ⟨t, ht⟩ : ∃ t, t = decide (who ∈ zs) := ⟨_, rfl⟩
      have k1 := kC 0 (by rw [hmay]; rfl)
      have k2 := kM true hmay.symm
      have k3 := kH t (by rw [hmay, ht]; rfl)
      have k4 := kIn t ht
      rw [er_zero] at k1
      clear kC kM kH kIn hmay ht
      refine wp_region_quiet_below (by kernel_rfl) (by kernel_rfl) ?_
      repeat (go_big_quiet_step (first | exact k1 _ _ | exact k2 _ _ | exact k3 _ _ | exact k4 _ _ | exact kN _ _ _ | exact kI _ _ _ _ _ _ (by assumption) (by assumption) _ _ | exact kS _ _))
      refine wpQuiet_nil ?_
      rintro W ⟨⟨dr, osr⟩, rfl⟩
      have hb9 := HB8.out.trans ((below_regrown W8 dr osr).mono HB8.out.size)
      go_wp2_with fail
      all_goals
        go_ret
        exact ⟨rfl, hb9⟩

end Go.Proofs.YtgnonfnipifbiaaDoor.pk
