/-
  The program's own members: Check, Has, Quorum, Near.
-/
import Derived.Test.YtgnonfnipifbiaaDoorHc1
namespace Go.Proofs.YtgnonfnipifbiaaDoor.pk
open Go Go.RowKit
set_option maxRecDepth 100000

theorem cnt_diff (zs ss : List Int) : cntC zs ss + diffC zs ss = zs.length := by
  unfold cntC diffC
  induction zs with
  | nil => rfl
  | cons z r ih =>
    by_cases h : z ∈ ss
    · simp only [List.filter_cons, decide_eq_true h, if_true, Bool.not_true, Bool.false_eq_true, if_false, List.length_cons]; omega
    · simp only [List.filter_cons, decide_eq_false h, Bool.false_eq_true, if_false, Bool.not_false, if_true, List.length_cons]; omega

theorem ret_bool {a b : Bool} (h : a = b) : Ending.returned (.bool a) = Ending.returned (.bool b) := by rw [h]
theorem Check_own (A : Option Addr) (m c : Nat) (zs : List Int) (w : World) (h : Ints w (.slice A m c) zs) (k : Nat) (hk : k = (if mayC zs then 0 else 1)) :
    Calls Tryd.prog 10 #[.slice A m c] w fun y w' => y = .returned (er k) ∧ Below w.heap.size w w' := by
  have C := Lib.hid (may_own A m c zs w h _ rfl)
  cases hm : mayC zs with
  | true =>
    rw [hm, if_pos rfl] at hk
    subst hk
    rw [hm] at C
    clear h hm
    go_enter Tryd.func10, Tryd.ntmps10
    go_wp2_with (go_at_call 18; go_must (refine C.out.mono ?_; rintro y w1 ⟨rfl, rfl⟩))
    go_ret
    exact ⟨rfl, Below.refl _ _⟩
  | false =>
    rw [hm, if_neg (by simp)] at hk
    subst hk
    rw [hm] at C
    clear h hm
    go_enter Tryd.func10, Tryd.ntmps10
    go_wp2_with (go_at_call 18; go_must (refine C.out.mono ?_; rintro y w1 ⟨rfl, rfl⟩))
    go_ret
    exact ⟨rfl, Below.refl _ _⟩

theorem Has_own (A : Option Addr) (m c : Nat) (zs : List Int) (who : Int) (w : World) (h : Ints w (.slice A m c) zs) (r : Bool) (hr : r = (mayC zs && decide (who ∈ zs))) :
    Calls Tryd.prog 12 #[.slice A m c, .int .i64 who] w fun y w' => y = .returned (.bool r) ∧ Below w.heap.size w w' := by
  have C := Lib.hid (may_own A m c zs w h _ rfl)
  have K := Lib.hid (IndexC_has A m c zs who w h _ rfl)
  cases hm : mayC zs with
  | true =>
    rw [hm, Bool.true_and] at hr
    rw [← hr] at K
    rw [hm] at C
    clear h hm hr
    go_enter Tryd.func12, Tryd.ntmps12
    go_wp2_with (first
      | (go_at_call 18; go_must (refine C.out.mono ?_; rintro y w1 ⟨rfl, rfl⟩))
      | (go_at_call 19; go_must (refine K.out.mono ?_; rintro y w1 ⟨rfl, rfl⟩)))
    go_ret
    exact ⟨rfl, Below.refl _ _⟩
  | false =>
    rw [hm, Bool.false_and] at hr
    subst hr
    rw [hm] at C
    clear h hm K
    go_enter Tryd.func12, Tryd.ntmps12
    go_wp2_with (go_at_call 18; go_must (refine C.out.mono ?_; rintro y w1 ⟨rfl, rfl⟩))
    go_ret
    exact ⟨rfl, Below.refl _ _⟩

set_option maxHeartbeats 2000000 in
theorem Quorum_own (A : Option Addr) (m c : Nat) (zs : List Int) (A' : Option Addr) (m' c' : Nat) (ss : List Int) (w : World) (h : Ints w (.slice A m c) zs) (h' : Ints w (.slice A' m' c') ss) (r : Bool) (hr : r = quorumC zs ss) :
    Calls Tryd.prog 16 #[.slice A m c, .slice A' m' c'] w fun y w' => y = .returned (.bool r) ∧ Below w.heap.size w w' := by
  have C := Lib.hid (may_own A m c zs w h _ rfl)
  unfold quorumC at hr
  cases hm : mayC zs with
  | true =>
    rw [hm, Bool.true_and] at hr
    rw [hm] at C
    have hlen := h.len_le
    have h7 := ((mayC_iff zs).1 hm).1
    have hcd := cnt_diff zs ss
    obtain ⟨d, hd⟩ : ∃ d, d = diffC zs ss := ⟨_, rfl⟩
    have K := Lib.hid (missing_own A m c zs A' m' c' ss w h h' (d : Int) (by rw [hd]))
    rw [← hd] at hcd
    have i0 : (m : Int) ≤ 7 := by omega
    have q0 : ((m : Int)).tdiv 2 = ((m / 2 : Nat) : Int) := by rw [Int.tdiv_eq_ediv_of_nonneg (by omega)]; omega
    have hb : r = decide (((m / 2 : Nat) : Int) < (m : Int) - (d : Int)) := by
      rw [hr, decide_eq_decide]
      omega
    have hw : IntKind.i64.wrap ((m : Int) - (d : Int)) = (m : Int) - (d : Int) := IntWalk.i64_in _ (by omega)
    have HB := Lib.hid hb
    clear h h' hm hr hd hcd h7 hlen hb
    go_enter Tryd.func16, Tryd.ntmps16
    go_wp2_with (first
      | (go_at_call 18; go_must (refine C.out.mono ?_; rintro y w1 ⟨rfl, rfl⟩))
      | (go_at_call 25; go_must (refine K.out.mono ?_; rintro y w1 ⟨rfl, rfl⟩)))
    go_ret
    exact ⟨ret_bool (by rw [HB.out]; try (rw [decide_eq_decide]; omega)), Below.refl _ _⟩
  | false =>
    rw [hm, Bool.false_and] at hr
    subst hr
    rw [hm] at C
    clear h hm h'
    go_enter Tryd.func16, Tryd.ntmps16
    go_wp2_with (go_at_call 18; go_must (refine C.out.mono ?_; rintro y w1 ⟨rfl, rfl⟩))
    go_ret
    exact ⟨rfl, Below.refl _ _⟩


end Go.Proofs.YtgnonfnipifbiaaDoor.pk
