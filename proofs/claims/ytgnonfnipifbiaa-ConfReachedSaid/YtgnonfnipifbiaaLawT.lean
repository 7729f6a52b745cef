/-
  The law ConfTurns: walked.
-/
import Derived.Test.YtgnonfnipifbiaaConC
import Derived.Test.YtgnonfnipifbiaaLawQ
namespace Go.Proofs.Ytgnonfnipifbiaa.pk
open Go Go.RowKit
set_option maxRecDepth 100000

theorem er_one (k : Nat) (hk : k ≠ 0) : ∃ t v, er k = .iface t v := ⟨_, _, er_ne hk⟩

section
variable {C : ConC} {zs : List Int} {who : Int}
theorem add_yes (C : ConC) (hw : inI who) (h : (addC zs who).2 = 0) (a : List Int) (ha : a = insC who zs) (A : Option Addr) (m c : Nat) (W : World) (hi : Ints W (.slice A m c) zs) (hm : m ≤ 300) :
    Calls Try.prog 21 #[.slice A m c, .int .i64 who] W fun y w' => ∃ A1 n1 c1, y = .returned (.tuple #[.slice A1 n1 c1, .nilIface]) ∧ Ints w' (.slice A1 n1 c1) a ∧ Below W.heap.size W w' :=
  (C.cAdd A m c zs who W hi hw hm _ rfl).mono fun y w' ⟨A1, c1, h1, h2, h3⟩ => by
    rw [(addC_yes h).2.2.1] at h1 h2
    subst ha
    exact ⟨A1, _, c1, h1, h2, h3⟩
theorem add_no (C : ConC) (hw : inI who) (h : (addC zs who).2 ≠ 0) (A : Option Addr) (m c : Nat) (W : World) (hi : Ints W (.slice A m c) zs) (hm : m ≤ 300) :
    Calls Try.prog 21 #[.slice A m c, .int .i64 who] W fun y w' => ∃ A1 n1 c1 t v, y = .returned (.tuple #[.slice A1 n1 c1, .iface t v]) ∧ Below W.heap.size W w' :=
  (C.cAdd A m c zs who W hi hw hm _ rfl).mono fun y w' ⟨A1, c1, h1, h2, h3⟩ => by
    rw [er_ne h] at h1
    exact ⟨A1, _, c1, _, _, h1, h3⟩
theorem rem_yes (C : ConC) (hw : inI who) (h : (remC zs who).2 = 0) (a : List Int) (ha : a = zs.filter fun x => decide (x ≠ who)) (A : Option Addr) (m c : Nat) (W : World) (hi : Ints W (.slice A m c) zs) (hm : m ≤ 300) :
    Calls Try.prog 20 #[.slice A m c, .int .i64 who] W fun y w' => ∃ A1 n1 c1, y = .returned (.tuple #[.slice A1 n1 c1, .nilIface]) ∧ Ints w' (.slice A1 n1 c1) a ∧ Below W.heap.size W w' :=
  (C.cRemove A m c zs who W hi hw hm _ rfl).mono fun y w' ⟨A1, c1, h1, h2, h3⟩ => by
    rw [(remC_yes h).2.2.1] at h1 h2
    subst ha
    exact ⟨A1, _, c1, h1, h2, h3⟩
theorem rem_no (C : ConC) (hw : inI who) (h : (remC zs who).2 ≠ 0) (A : Option Addr) (m c : Nat) (W : World) (hi : Ints W (.slice A m c) zs) (hm : m ≤ 300) :
    Calls Try.prog 20 #[.slice A m c, .int .i64 who] W fun y w' => ∃ A1 n1 c1 t v, y = .returned (.tuple #[.slice A1 n1 c1, .iface t v]) ∧ Below W.heap.size W w' :=
  (C.cRemove A m c zs who W hi hw hm _ rfl).mono fun y w' ⟨A1, c1, h1, h2, h3⟩ => by
    rw [er_ne h] at h1
    exact ⟨A1, _, c1, _, _, h1, h3⟩
theorem check_yes (C : ConC) (h : mayC zs = true) (A : Option Addr) (m c : Nat) (W : World) (hi : Ints W (.slice A m c) zs) (hm : m ≤ 300) :
    Calls Try.prog 22 #[.slice A m c] W fun y w' => y = .returned .nilIface ∧ Below W.heap.size W w' := C.cCheck A m c zs W hi hm 0 (by rw [if_pos h])
theorem check_no (C : ConC) (h : mayC zs = false) (A : Option Addr) (m c : Nat) (W : World) (hi : Ints W (.slice A m c) zs) (hm : m ≤ 300) :
    Calls Try.prog 22 #[.slice A m c] W fun y w' => (∃ t v, y = .returned (.iface t v)) ∧ Below W.heap.size W w' :=
  (C.cCheck A m c zs W hi hm 1 (by rw [h]; rfl)).mono fun y w' h => ⟨⟨_, _, h.1⟩, h.2⟩
theorem len300 (h : mayC zs = true) {A : Option Addr} {m c : Nat} {W : World} (hi : Ints W (.slice A m c) zs) : m ≤ 300 := by
  have := ((mayC_iff zs).1 h).1
  have := hi.len_le
  omega
end

set_option maxHeartbeats 16000000 in
theorem turns_true (C : ConC) (A : Option Addr) (m c : Nat) (zs : List Int) (who : Int) (w : World) (h : Ints w (.slice A m c) zs) (hw : inI who) :
    Calls Try.prog 7 #[.slice A m c, .int .i64 who] w fun y w' => y = .returned (.bool true) ∧ Below w.heap.size w w' := by
  have HH := Lib.hid h
  have HB := Lib.hid (Below.refl w.heap.size w)
  have hml := h.len_le
  clear h
  by_cases hbig : 300 < m
  · have hg : 300 < (m : Int) := by omega
    clear hbig hml
    go_enter Try.func7, Try.ntmps7
    go_wp2_with (go_at_call 10; go_must (refine (sure_any C _).mono ?_; rintro y w1 ⟨rfl, hb1⟩; have HB := Lib.hid (HB.out.trans (hb1.mono HB.out.size)); clear hb1))
    go_ret
    exact ⟨rfl, HB.out⟩
  · have i1 : ¬ 300 < (m : Int) := by omega
    have HN := Lib.hid (show m ≤ 300 by omega)
    clear hbig
    cases hmay : mayC zs with
    | false =>
      have CC := Lib.hid (check_no C hmay)
      clear hmay hml
      go_enter Try.func7, Try.ntmps7
      go_wp2_with (first
        | (go_at_call 10; go_must (refine (sure_any C _).mono ?_; rintro y w1 ⟨rfl, hb1⟩; have HB := Lib.hid (HB.out.trans (hb1.mono HB.out.size)); clear hb1))
        | (go_at_call 12; go_must (refine (own_any A m c zs _ (HH.out.below HB.out) (by have := HN.out; omega)).mono ?_; rintro y w1 ⟨A1, c1, rfl, hi1, hb1⟩; have HB := Lib.hid (HB.out.trans (hb1.mono HB.out.size)); (first | have I2 := Lib.hid (I2.out.below hb1) | skip); (first | have I4 := Lib.hid (I4.out.below hb1) | skip); have I1 := Lib.hid hi1; clear hi1 hb1))
        | (go_at_call 22; go_must (refine (CC.out _ _ _ _ I1.out HN.out).mono ?_; rintro y w1 ⟨⟨t, v, rfl⟩, hb1⟩; have HB := Lib.hid (HB.out.trans (hb1.mono HB.out.size)); (first | have I2 := Lib.hid (I2.out.below hb1) | skip); (first | have I4 := Lib.hid (I4.out.below hb1) | skip); clear hb1)))
      go_ret
      exact ⟨rfl, HB.out⟩
    | true =>
      have CC := Lib.hid (check_yes C hmay)
      have hend := turnsC (who := who) hmay
      by_cases hno : (addC zs who).2 ≠ 0 ∧ (remC zs who).2 ≠ 0
      · -- neither
        have he := hend hno.1 hno.2
        rw [← hml] at he
        have hg : ((m : Int) = 7) ∨ (¬ (m : Int) = 7 ∧ (m : Int) = 1) ∨ (¬ (m : Int) = 7 ∧ ¬ (m : Int) = 1 ∧ who < 1) ∨ (¬ (m : Int) = 7 ∧ ¬ (m : Int) = 1 ∧ ¬ who < 1 ∧ 64 < who) := by omega
        have CA := Lib.hid (add_no C hw hno.1)
        have CR := Lib.hid (rem_no C hw hno.2)
        clear hmay hml hend hno he
        rcases hg with hg | ⟨hg1, hg2⟩ | ⟨hg1, hg2, hg3⟩ | ⟨hg1, hg2, hg3, hg4⟩
        all_goals
          go_enter Try.func7, Try.ntmps7
          go_wp2_with (first
            | (go_at_call 10; go_must (refine (sure_any C _).mono ?_; rintro y w1 ⟨rfl, hb1⟩; have HB := Lib.hid (HB.out.trans (hb1.mono HB.out.size)); clear hb1))
            | (go_at_call 12; go_must (refine (own_any A m c zs _ (HH.out.below HB.out) (by have := HN.out; omega)).mono ?_; rintro y w1 ⟨A1, c1, rfl, hi1, hb1⟩; have HB := Lib.hid (HB.out.trans (hb1.mono HB.out.size)); (first | have I2 := Lib.hid (I2.out.below hb1) | skip); (first | have I4 := Lib.hid (I4.out.below hb1) | skip); have I1 := Lib.hid hi1; clear hi1 hb1))
            | (go_at_call 22; go_must (refine (CC.out _ _ _ _ I1.out HN.out).mono ?_; rintro y w1 ⟨rfl, hb1⟩; have HB := Lib.hid (HB.out.trans (hb1.mono HB.out.size)); (first | have I2 := Lib.hid (I2.out.below hb1) | skip); (first | have I4 := Lib.hid (I4.out.below hb1) | skip); clear hb1))
            | (go_at_call 21; go_must (refine (CA.out _ _ _ _ I1.out HN.out).mono ?_; rintro y w1 ⟨A2, n2, c2, t2, v2, rfl, hb1⟩; have HB := Lib.hid (HB.out.trans (hb1.mono HB.out.size)); (first | have I2 := Lib.hid (I2.out.below hb1) | skip); (first | have I4 := Lib.hid (I4.out.below hb1) | skip); clear hb1))
            | (go_at_call 20; go_must (refine (CR.out _ _ _ _ I1.out HN.out).mono ?_; rintro y w1 ⟨A4, n4, c4, t4, v4, rfl, hb1⟩; have HB := Lib.hid (HB.out.trans (hb1.mono HB.out.size)); (first | have I2 := Lib.hid (I2.out.below hb1) | skip); (first | have I4 := Lib.hid (I4.out.below hb1) | skip); clear hb1)))
          go_ret
          exact ⟨rfl, HB.out⟩
      · have hcase : ((addC zs who).2 = 0 ∧ (remC zs who).2 ≠ 0) ∨ ((addC zs who).2 ≠ 0 ∧ (remC zs who).2 = 0) := by
          by_cases ha : (addC zs who).2 = 0
          · refine Or.inl ⟨ha, fun e => (addC_yes ha).2.1 (remC_yes e).2.1⟩
          · by_cases hr : (remC zs who).2 = 0
            · exact Or.inr ⟨ha, hr⟩
            · exact absurd ⟨ha, hr⟩ hno
        clear hend hno
        rcases hcase with ⟨ha, hr⟩ | ⟨ha, hr⟩
        · obtain ⟨a, hae⟩ : ∃ a, a = insC who zs := ⟨_, rfl⟩
          obtain ⟨-, y2, -, y4, y5, y6⟩ := addC_yes ha
          have y7 : who ∈ a := by rw [hae]; exact ins_mem.2 (Or.inl rfl)
          rw [← hae] at y4 y5 y6
          have CA := Lib.hid (add_yes C hw ha a hae)
          have CR := Lib.hid (rem_no C hw hr)
          have CB := Lib.hid (rem_yes C (zs := a) hw (by rw [y6]) zs (by have := (remC_yes (c := a) (who := who) (by rw [y6])).2.2.1; rw [y6] at this; exact congrArg Prod.fst this))
          have CN := Lib.hid fun A m c A' m' c' (W : World) h h' h1 h2 => C.cNear A m c a A' m' c' zs W h h' h1 h2 true y5.symm
          have CH := Lib.hid fun A m c (W : World) h h1 => C.cHas A m c a who W h hw h1 true (by rw [y4, decide_eq_true y7]; rfl)
          have LA := Lib.hid fun A m c (W : World) (h : Ints W (.slice A m c) a) => len300 y4 h
          clear hmay hml ha hr hae y2 y4 y5 y6 y7
          go_enter Try.func7, Try.ntmps7
          go_wp2_with (first
            | (go_at_call 10; go_must (refine (sure_any C _).mono ?_; rintro y w1 ⟨rfl, hb1⟩; have HB := Lib.hid (HB.out.trans (hb1.mono HB.out.size)); clear hb1))
            | (go_at_call 12; go_must (refine (own_any A m c zs _ (HH.out.below HB.out) (by have := HN.out; omega)).mono ?_; rintro y w1 ⟨A1, c1, rfl, hi1, hb1⟩; have HB := Lib.hid (HB.out.trans (hb1.mono HB.out.size)); (first | have I2 := Lib.hid (I2.out.below hb1) | skip); (first | have I4 := Lib.hid (I4.out.below hb1) | skip); have I1 := Lib.hid hi1; clear hi1 hb1))
            | (go_at_call 22; go_must (refine (CC.out _ _ _ _ I1.out HN.out).mono ?_; rintro y w1 ⟨rfl, hb1⟩; have HB := Lib.hid (HB.out.trans (hb1.mono HB.out.size)); (first | have I2 := Lib.hid (I2.out.below hb1) | skip); (first | have I4 := Lib.hid (I4.out.below hb1) | skip); clear hb1))
            | (go_at_call 21; go_must (refine (CA.out _ _ _ _ I1.out HN.out).mono ?_; rintro y w1 ⟨A2, n2, c2, rfl, hi2, hb1⟩; have HB := Lib.hid (HB.out.trans (hb1.mono HB.out.size)); (first | have I2 := Lib.hid (I2.out.below hb1) | skip); (first | have I4 := Lib.hid (I4.out.below hb1) | skip); have I2 := Lib.hid hi2; clear hb1 hi2))
            | (go_at_call 20; have h0 := I3.out; go_must (refine (CR.out _ _ _ _ I1.out HN.out).mono ?_; rintro y w1 ⟨A4, n4, c4, t4, v4, rfl, hb1⟩; have HB := Lib.hid (HB.out.trans (hb1.mono HB.out.size)); (first | have I2 := Lib.hid (I2.out.below hb1) | skip); (first | have I4 := Lib.hid (I4.out.below hb1) | skip); clear hb1 h0))
            | (go_at_call 20; go_must (refine (CB.out _ _ _ _ I2.out (LA.out _ _ _ _ I2.out)).mono ?_; rintro y w1 ⟨A3, n3, c3, rfl, hi3, hb1⟩; have HB := Lib.hid (HB.out.trans (hb1.mono HB.out.size)); (first | have I2 := Lib.hid (I2.out.below hb1) | skip); (first | have I4 := Lib.hid (I4.out.below hb1) | skip); have I3 := Lib.hid hi3; clear hb1 hi3))
            | (go_at_call 24; go_must (refine (ints_any _ _ _ zs A m c zs _ I3.out (HH.out.below HB.out) true (decide_eq_true rfl).symm).mono ?_; rintro y w1 ⟨rfl, hb1⟩; have HB := Lib.hid (HB.out.trans (hb1.mono HB.out.size)); (first | have I2 := Lib.hid (I2.out.below hb1) | skip); (first | have I4 := Lib.hid (I4.out.below hb1) | skip); clear hb1))
            | (go_at_call 14; go_must (refine (CN.out _ _ _ _ _ _ _ I2.out I1.out (LA.out _ _ _ _ I2.out) HN.out).mono ?_; rintro y w1 ⟨rfl, hb1⟩; have HB := Lib.hid (HB.out.trans (hb1.mono HB.out.size)); (first | have I2 := Lib.hid (I2.out.below hb1) | skip); (first | have I4 := Lib.hid (I4.out.below hb1) | skip); clear hb1))
            | (go_at_call 19; go_must (refine (CH.out _ _ _ _ I2.out (LA.out _ _ _ _ I2.out)).mono ?_; rintro y w1 ⟨rfl, hb1⟩; have HB := Lib.hid (HB.out.trans (hb1.mono HB.out.size)); (first | have I2 := Lib.hid (I2.out.below hb1) | skip); (first | have I4 := Lib.hid (I4.out.below hb1) | skip); clear hb1)))
          go_ret
          exact ⟨rfl, HB.out⟩
        · obtain ⟨d, hde⟩ : ∃ d, d = zs.filter fun x => decide (x ≠ who) := ⟨_, rfl⟩
          obtain ⟨-, y2, -, y4, y5, y6, y7⟩ := remC_yes hr
          rw [← hde] at y4 y5 y6 y7
          have CA := Lib.hid (add_no C hw ha)
          have CR := Lib.hid (rem_yes C hw hr d hde)
          have CB := Lib.hid (add_yes C (zs := d) hw (by rw [y7]) zs (by have := (addC_yes (c := d) (who := who) (by rw [y7])).2.2.1; rw [y7] at this; exact congrArg Prod.fst this))
          have CN := Lib.hid fun A m c A' m' c' (W : World) h h' h1 h2 => C.cNear A m c d A' m' c' zs W h h' h1 h2 true y6.symm
          have CH := Lib.hid fun A m c (W : World) h h1 => C.cHas A m c d who W h hw h1 false (by rw [decide_eq_false y5, Bool.and_false])
          have LA := Lib.hid fun A m c (W : World) (h : Ints W (.slice A m c) d) => len300 y4 h
          clear hmay hml ha hr hde y2 y4 y5 y6 y7
          go_enter Try.func7, Try.ntmps7
          go_wp2_with (first
            | (go_at_call 10; go_must (refine (sure_any C _).mono ?_; rintro y w1 ⟨rfl, hb1⟩; have HB := Lib.hid (HB.out.trans (hb1.mono HB.out.size)); clear hb1))
            | (go_at_call 12; go_must (refine (own_any A m c zs _ (HH.out.below HB.out) (by have := HN.out; omega)).mono ?_; rintro y w1 ⟨A1, c1, rfl, hi1, hb1⟩; have HB := Lib.hid (HB.out.trans (hb1.mono HB.out.size)); (first | have I2 := Lib.hid (I2.out.below hb1) | skip); (first | have I4 := Lib.hid (I4.out.below hb1) | skip); have I1 := Lib.hid hi1; clear hi1 hb1))
            | (go_at_call 22; go_must (refine (CC.out _ _ _ _ I1.out HN.out).mono ?_; rintro y w1 ⟨rfl, hb1⟩; have HB := Lib.hid (HB.out.trans (hb1.mono HB.out.size)); (first | have I2 := Lib.hid (I2.out.below hb1) | skip); (first | have I4 := Lib.hid (I4.out.below hb1) | skip); clear hb1))
            | (go_at_call 21; have h0 := I4.out; go_must (refine (CB.out _ _ _ _ I4.out (LA.out _ _ _ _ I4.out)).mono ?_; rintro y w1 ⟨A3, n3, c3, rfl, hi3, hb1⟩; have HB := Lib.hid (HB.out.trans (hb1.mono HB.out.size)); (first | have I2 := Lib.hid (I2.out.below hb1) | skip); (first | have I4 := Lib.hid (I4.out.below hb1) | skip); have I3 := Lib.hid hi3; clear hb1 hi3 h0))
            | (go_at_call 21; go_must (refine (CA.out _ _ _ _ I1.out HN.out).mono ?_; rintro y w1 ⟨A2, n2, c2, t2, v2, rfl, hb1⟩; have HB := Lib.hid (HB.out.trans (hb1.mono HB.out.size)); (first | have I2 := Lib.hid (I2.out.below hb1) | skip); (first | have I4 := Lib.hid (I4.out.below hb1) | skip); clear hb1))
            | (go_at_call 20; go_must (refine (CR.out _ _ _ _ I1.out HN.out).mono ?_; rintro y w1 ⟨A4, n4, c4, rfl, hi4, hb1⟩; have HB := Lib.hid (HB.out.trans (hb1.mono HB.out.size)); (first | have I2 := Lib.hid (I2.out.below hb1) | skip); (first | have I4 := Lib.hid (I4.out.below hb1) | skip); have I4 := Lib.hid hi4; clear hb1 hi4))
            | (go_at_call 24; go_must (refine (ints_any _ _ _ zs A m c zs _ I3.out (HH.out.below HB.out) true (decide_eq_true rfl).symm).mono ?_; rintro y w1 ⟨rfl, hb1⟩; have HB := Lib.hid (HB.out.trans (hb1.mono HB.out.size)); (first | have I2 := Lib.hid (I2.out.below hb1) | skip); (first | have I4 := Lib.hid (I4.out.below hb1) | skip); clear hb1))
            | (go_at_call 14; go_must (refine (CN.out _ _ _ _ _ _ _ I4.out I1.out (LA.out _ _ _ _ I4.out) HN.out).mono ?_; rintro y w1 ⟨rfl, hb1⟩; have HB := Lib.hid (HB.out.trans (hb1.mono HB.out.size)); (first | have I2 := Lib.hid (I2.out.below hb1) | skip); (first | have I4 := Lib.hid (I4.out.below hb1) | skip); clear hb1))
            | (go_at_call 19; go_must (refine (CH.out _ _ _ _ I4.out (LA.out _ _ _ _ I4.out)).mono ?_; rintro y w1 ⟨rfl, hb1⟩; have HB := Lib.hid (HB.out.trans (hb1.mono HB.out.size)); (first | have I2 := Lib.hid (I2.out.below hb1) | skip); (first | have I4 := Lib.hid (I4.out.below hb1) | skip); clear hb1)))
          go_ret
          exact ⟨rfl, HB.out⟩

end Go.Proofs.Ytgnonfnipifbiaa.pk
