/-
  The program's own members: may they be; who is among some; who is missing.
-/
import Derived.Test.YtgnonfnipifbiaaDoorConC
namespace Go.Proofs.YtgnonfnipifbiaaDoor.pk
open Go Go.RowKit
set_option maxRecDepth 100000

theorem first_at {x : Int} {zs : List Int} (h : x ∈ zs) : ∃ k, k < zs.length ∧ zs.getD k 0 = x ∧ ∀ j, j < k → zs.getD j 0 ≠ x := by
  induction zs with
  | nil => cases h
  | cons z r ih =>
    by_cases hz : z = x
    · exact ⟨0, by simp, by simpa using hz, fun j hj => absurd hj (Nat.not_lt_zero j)⟩
    · have hr : x ∈ r := by
        rcases List.mem_cons.1 h with h | h
        · exact absurd h.symm hz
        · exact h
      obtain ⟨k, hk, h1, h2⟩ := ih hr
      refine ⟨k + 1, by simpa using hk, by simpa using h1, fun j hj => ?_⟩
      cases j with
      | zero => simpa using hz
      | succ j => have := h2 j (by omega); simpa using this

theorem IndexC_yes (A : Option Addr) (m c : Nat) (zs : List Int) (x : Int) (k : Nat) (w : World) (h : Ints w (.slice A m c) zs) (hk : k < zs.length) (hx : zs.getD k 0 = x) (hno : ∀ j, j < k → zs.getD j 0 ≠ x) :
    Calls Tryd.prog 22 #[.slice A m c, .int .i64 x] w fun y w' => y = .returned (.int .i64 (k : Int)) ∧ w = w' := by
  obtain ⟨hm, hmc, hcm, hat⟩ := h.at_
  have im : (m : Int) ≤ 9223372036854775807 := by omega
  obtain ⟨b, off, rfl, hb, hc⟩ := hat (by omega)
  have HM := Lib.hid (And.intro hm (And.intro hc (And.intro hk (And.intro hx hno))))
  clear h hm hmc hcm hat hb hc hk hx hno
  go_enter Tryd.func22, Tryd.ntmps22
  go_wp2_with fail
  go_loopw [8] (fun ii wr => ∃ j : Nat, j ≤ k ∧ ii = .int .i64 (j : Int) ∧ w = wr) (fun ii _ => m - (intOf ii).toNat)
  case atStart => exact ⟨0, Nat.zero_le _, rfl, rfl⟩
  case round =>
    obtain ⟨j, hj, rfl, rfl⟩ := hrel
    have hjm : j < m := by have := HM.out.1; have := HM.out.2.2.1; omega
    have g1 := HM.out.2.1 j hjm
    have ij : (j : Int) < (m : Int) := by omega
    have ij0 : (0 : Int) ≤ (j : Int) := by omega
    by_cases hjk : j = k
    · subst hjk
      rw [HM.out.2.2.2.1] at g1
      have HB := Lib.hid hj
      clear hj
      go_wp2_with fail
      go_ret
      exact ⟨rfl, rfl⟩
    · have hz := HM.out.2.2.2.2 j (by omega)
      obtain ⟨z, hzz⟩ : ∃ z, z = zs.getD j 0 := ⟨_, rfl⟩
      rw [← hzz] at hz g1
      have hz' : ¬ x = z := fun e => hz e.symm
      clear hzz
      go_wp2_with fail
      go_roundw
      case rel => exact ⟨j + 1, by omega, by go_num, trivial⟩
      case measure => simp [intOf]; omega
theorem IndexC_no (A : Option Addr) (m c : Nat) (zs : List Int) (x : Int) (w : World) (h : Ints w (.slice A m c) zs) (hno : ¬ x ∈ zs) :
    Calls Tryd.prog 22 #[.slice A m c, .int .i64 x] w fun y w' => y = .returned (.int .i64 (-1)) ∧ w = w' := by
  obtain ⟨hm, hmc, hcm, hat⟩ := h.at_
  have im : (m : Int) ≤ 9223372036854775807 := by omega
  have HM := Lib.hid (And.intro hm (And.intro hat hno))
  clear h hm hmc hcm hat hno
  go_enter Tryd.func22, Tryd.ntmps22
  go_wp2_with fail
  go_loopw [8] (fun ii wr => ∃ j : Nat, j ≤ m ∧ ii = .int .i64 (j : Int) ∧ w = wr) (fun ii _ => m - (intOf ii).toNat)
  case atStart => exact ⟨0, Nat.zero_le _, rfl, rfl⟩
  case round =>
    obtain ⟨j, hj, rfl, rfl⟩ := hrel
    by_cases hjm : j < m
    · obtain ⟨b, off, rfl, hb, hc⟩ := HM.out.2.1 (by omega)
      have g1 := hc j hjm
      have ij : (j : Int) < (m : Int) := by omega
      have ij0 : (0 : Int) ≤ (j : Int) := by omega
      have hz : zs.getD j 0 ≠ x := fun e => HM.out.2.2 (mem_getD.2 ⟨j, by have := HM.out.1; omega, e⟩)
      obtain ⟨z, hzz⟩ : ∃ z, z = zs.getD j 0 := ⟨_, rfl⟩
      rw [← hzz] at hz g1
      have hz' : ¬ x = z := fun e => hz e.symm
      clear hzz hc hb
      go_wp2_with fail
      go_roundw
      case rel => exact ⟨j + 1, by omega, by go_num, trivial⟩
      case measure => simp [intOf]; omega
    · obtain rfl : j = m := by omega
      have ij : ¬ (j : Int) < (j : Int) := by omega
      go_wp2_with fail
      go_ret
      exact ⟨rfl, rfl⟩
theorem IndexC_has (A : Option Addr) (m c : Nat) (zs : List Int) (x : Int) (w : World) (h : Ints w (.slice A m c) zs) (r : Bool) (hr : r = decide (x ∈ zs)) :
    Calls Tryd.prog 19 #[.slice A m c, .int .i64 x] w fun y w' => y = .returned (.bool r) ∧ w = w' := by
  by_cases hx : x ∈ zs
  · obtain ⟨k, hk, hkx, hno⟩ := first_at hx
    have hrt : r = true := by rw [hr]; exact decide_eq_true hx
    subst hrt
    have C := Lib.hid (IndexC_yes A m c zs x k w h hk hkx hno)
    have k0 : (0 : Int) ≤ (k : Int) := by omega
    clear h hk hkx hno hr hx
    go_enter Tryd.func19, Tryd.ntmps19
    go_wp2_with (go_at_call 22; go_must (refine C.out.mono ?_; rintro y w1 ⟨rfl, rfl⟩))
    go_ret
    exact ⟨rfl, rfl⟩
  · have hrf : r = false := by rw [hr]; exact decide_eq_false hx
    subst hrf
    have C := Lib.hid (IndexC_no A m c zs x w h hx)
    clear h hr hx
    go_enter Tryd.func19, Tryd.ntmps19
    go_wp2_with (go_at_call 22; go_must (refine C.out.mono ?_; rintro y w1 ⟨rfl, rfl⟩))
    go_ret
    exact ⟨rfl, rfl⟩

theorem IndexI_yes (A : Option Addr) (m c : Nat) (zs : List Int) (x : Int) (k : Nat) (w : World) (h : Ints w (.slice A m c) zs) (hk : k < zs.length) (hx : zs.getD k 0 = x) (hno : ∀ j, j < k → zs.getD j 0 ≠ x) :
    Calls Tryd.prog 49 #[.slice A m c, .int .i64 x] w fun y w' => y = .returned (.int .i64 (k : Int)) ∧ w = w' := by
  obtain ⟨hm, hmc, hcm, hat⟩ := h.at_
  have im : (m : Int) ≤ 9223372036854775807 := by omega
  obtain ⟨b, off, rfl, hb, hc⟩ := hat (by omega)
  have HM := Lib.hid (And.intro hm (And.intro hc (And.intro hk (And.intro hx hno))))
  clear h hm hmc hcm hat hb hc hk hx hno
  go_enter Tryd.func49, Tryd.ntmps49
  go_wp2_with fail
  go_loopw [8] (fun ii wr => ∃ j : Nat, j ≤ k ∧ ii = .int .i64 (j : Int) ∧ w = wr) (fun ii _ => m - (intOf ii).toNat)
  case atStart => exact ⟨0, Nat.zero_le _, rfl, rfl⟩
  case round =>
    obtain ⟨j, hj, rfl, rfl⟩ := hrel
    have hjm : j < m := by have := HM.out.1; have := HM.out.2.2.1; omega
    have g1 := HM.out.2.1 j hjm
    have ij : (j : Int) < (m : Int) := by omega
    have ij0 : (0 : Int) ≤ (j : Int) := by omega
    by_cases hjk : j = k
    · subst hjk
      rw [HM.out.2.2.2.1] at g1
      have HB := Lib.hid hj
      clear hj
      go_wp2_with fail
      go_ret
      exact ⟨rfl, rfl⟩
    · have hz := HM.out.2.2.2.2 j (by omega)
      obtain ⟨z, hzz⟩ : ∃ z, z = zs.getD j 0 := ⟨_, rfl⟩
      rw [← hzz] at hz g1
      have hz' : ¬ x = z := fun e => hz e.symm
      clear hzz
      go_wp2_with fail
      go_roundw
      case rel => exact ⟨j + 1, by omega, by go_num, trivial⟩
      case measure => simp [intOf]; omega
theorem IndexI_no (A : Option Addr) (m c : Nat) (zs : List Int) (x : Int) (w : World) (h : Ints w (.slice A m c) zs) (hno : ¬ x ∈ zs) :
    Calls Tryd.prog 49 #[.slice A m c, .int .i64 x] w fun y w' => y = .returned (.int .i64 (-1)) ∧ w = w' := by
  obtain ⟨hm, hmc, hcm, hat⟩ := h.at_
  have im : (m : Int) ≤ 9223372036854775807 := by omega
  have HM := Lib.hid (And.intro hm (And.intro hat hno))
  clear h hm hmc hcm hat hno
  go_enter Tryd.func49, Tryd.ntmps49
  go_wp2_with fail
  go_loopw [8] (fun ii wr => ∃ j : Nat, j ≤ m ∧ ii = .int .i64 (j : Int) ∧ w = wr) (fun ii _ => m - (intOf ii).toNat)
  case atStart => exact ⟨0, Nat.zero_le _, rfl, rfl⟩
  case round =>
    obtain ⟨j, hj, rfl, rfl⟩ := hrel
    by_cases hjm : j < m
    · obtain ⟨b, off, rfl, hb, hc⟩ := HM.out.2.1 (by omega)
      have g1 := hc j hjm
      have ij : (j : Int) < (m : Int) := by omega
      have ij0 : (0 : Int) ≤ (j : Int) := by omega
      have hz : zs.getD j 0 ≠ x := fun e => HM.out.2.2 (mem_getD.2 ⟨j, by have := HM.out.1; omega, e⟩)
      obtain ⟨z, hzz⟩ : ∃ z, z = zs.getD j 0 := ⟨_, rfl⟩
      rw [← hzz] at hz g1
      have hz' : ¬ x = z := fun e => hz e.symm
      clear hzz hc hb
      go_wp2_with fail
      go_roundw
      case rel => exact ⟨j + 1, by omega, by go_num, trivial⟩
      case measure => simp [intOf]; omega
    · obtain rfl : j = m := by omega
      have ij : ¬ (j : Int) < (j : Int) := by omega
      go_wp2_with fail
      go_ret
      exact ⟨rfl, rfl⟩
theorem IndexI_has (A : Option Addr) (m c : Nat) (zs : List Int) (x : Int) (w : World) (h : Ints w (.slice A m c) zs) (r : Bool) (hr : r = decide (x ∈ zs)) :
    Calls Tryd.prog 34 #[.slice A m c, .int .i64 x] w fun y w' => y = .returned (.bool r) ∧ w = w' := by
  by_cases hx : x ∈ zs
  · obtain ⟨k, hk, hkx, hno⟩ := first_at hx
    have hrt : r = true := by rw [hr]; exact decide_eq_true hx
    subst hrt
    have C := Lib.hid (IndexI_yes A m c zs x k w h hk hkx hno)
    have k0 : (0 : Int) ≤ (k : Int) := by omega
    clear h hk hkx hno hr hx
    go_enter Tryd.func34, Tryd.ntmps34
    go_wp2_with (go_at_call 49; go_must (refine C.out.mono ?_; rintro y w1 ⟨rfl, rfl⟩))
    go_ret
    exact ⟨rfl, rfl⟩
  · have hrf : r = false := by rw [hr]; exact decide_eq_false hx
    subst hrf
    have C := Lib.hid (IndexI_no A m c zs x w h hx)
    clear h hr hx
    go_enter Tryd.func34, Tryd.ntmps34
    go_wp2_with (go_at_call 49; go_must (refine C.out.mono ?_; rintro y w1 ⟨rfl, rfl⟩))
    go_ret
    exact ⟨rfl, rfl⟩

/-- What stands ahead of a place; 0 at the begin. -/
def prevC (zs : List Int) (k : Nat) : Int := if k = 0 then 0 else zs.getD (k - 1) 0
theorem okC_prev {zs : List Int} {k : Nat} (h : ∀ j, j < k → okC zs j) : okC zs k ↔ prevC zs k < zs.getD k 0 ∧ zs.getD k 0 ≤ 64 := by
  unfold okC prevC
  by_cases hk : k = 0
  · subst hk
    rw [if_pos rfl]
    exact ⟨fun e => ⟨by omega, e.2.1⟩, fun e => ⟨by omega, e.2, fun h => absurd h (by omega)⟩⟩
  · rw [if_neg hk]
    have h1 := (h (k - 1) (by omega)).1
    exact ⟨fun e => ⟨e.2.2 (by omega), e.2.1⟩, fun e => ⟨by omega, e.2, fun _ => e.1⟩⟩
theorem prevC_next {zs : List Int} {k : Nat} : prevC zs (k + 1) = zs.getD k 0 := by unfold prevC; rw [if_neg (by omega)]; rfl

set_option maxHeartbeats 2000000 in
theorem may_own (A : Option Addr) (m c : Nat) (zs : List Int) (w : World) (h : Ints w (.slice A m c) zs) (r : Bool) (hr : r = mayC zs) :
    Calls Tryd.prog 18 #[.slice A m c] w fun y w' => y = .returned (.bool r) ∧ w = w' := by
  obtain ⟨hm, hmc, hcm, hat⟩ := h.at_
  have im : (m : Int) ≤ 9223372036854775807 := by omega
  by_cases h0 : m = 0
  · have hrf : r = false := by
      rw [hr]
      cases hx : mayC zs with
      | false => rfl
      | true => have := ((mayC_iff zs).1 hx).1; omega
    subst hrf
    have i0 : (m : Int) = 0 := by omega
    subst h0
    clear h hm hmc hcm hat hr im
    go_enter Tryd.func18, Tryd.ntmps18
    go_wp2_with fail
    go_ret
    exact ⟨rfl, rfl⟩
  · by_cases h7 : 7 < m
    · have hrf : r = false := by
        rw [hr]
        cases hx : mayC zs with
        | false => rfl
        | true => have := ((mayC_iff zs).1 hx).1; omega
      subst hrf
      have i0 : ¬ (m : Int) = 0 := by omega
      have i7 : (7 : Int) < (m : Int) := by omega
      clear h hm hmc hcm hat hr
      go_enter Tryd.func18, Tryd.ntmps18
      go_wp2_with fail
      go_ret
      exact ⟨rfl, rfl⟩
    · obtain ⟨b, off, rfl, hb, hc⟩ := hat (by omega)
      have HM := Lib.hid (And.intro hm (And.intro hc (And.intro hr (And.intro h0 h7))))
      have i0 : ¬ (m : Int) = 0 := by omega
      have i7 : ¬ (7 : Int) < (m : Int) := by omega
      clear h hm hmc hcm hat hr hb hc h0 h7
      go_enter Tryd.func18, Tryd.ntmps18
      go_wp2_with fail
      go_loopw [3, 16] (fun pp ii wr => ∃ k : Nat, k ≤ m ∧ ii = .int .i64 (k : Int) ∧ pp = .int .i64 (prevC zs k) ∧ (∀ j, j < k → okC zs j) ∧ w = wr) (fun _ ii _ => m - (intOf ii).toNat)
      case atStart => exact ⟨0, Nat.zero_le _, rfl, rfl, fun j hj => absurd hj (Nat.not_lt_zero j), rfl⟩
      case round =>
        obtain ⟨k, hk, rfl, rfl, hok, rfl⟩ := hrel
        have HK := Lib.hid (And.intro hok (okC_prev hok))
        clear hok
        by_cases hlt : k < m
        · have g1 := HM.out.2.1 k hlt
          have ik : (k : Int) < (m : Int) := by omega
          have ik0 : (0 : Int) ≤ (k : Int) := by omega
          obtain ⟨z, hz⟩ : ∃ z, z = zs.getD k 0 := ⟨_, rfl⟩
          obtain ⟨p, hp⟩ : ∃ p, p = prevC zs k := ⟨_, rfl⟩
          rw [← hz] at g1
          rw [← hp]
          have HZ := Lib.hid (And.intro hz hp)
          clear hz hp
          have bad : ¬ (p < z ∧ z ≤ 64) → r = false := fun hn => by
            rw [HM.out.2.2.1]
            cases hmy : mayC zs with
            | false => rfl
            | true =>
              refine absurd (HK.out.2.1 (((mayC_iff zs).1 hmy).2 k (by have := HM.out.1; omega))) ?_
              rw [← HZ.out.1, ← HZ.out.2]
              exact hn
          by_cases h1 : z ≤ p
          · have hrf := bad (by omega)
            subst hrf
            clear bad
            go_wp2_with fail
            go_ret
            exact ⟨rfl, rfl⟩
          · by_cases h2 : 64 < z
            · have hrf := bad (by omega)
              subst hrf
              clear bad
              go_wp2_with fail
              go_ret
              exact ⟨rfl, rfl⟩
            · have HOK := Lib.hid (HK.out.2.2 (by rw [← HZ.out.1, ← HZ.out.2]; omega))
              clear bad
              go_wp2_with fail
              go_roundw
              case rel => exact ⟨k + 1, by omega, by go_num, by rw [prevC_next, HZ.out.1], fun j hj => by
                by_cases hjk : j < k
                · exact HK.out.1 j hjk
                · obtain rfl : j = k := by omega
                  exact HOK.out, trivial⟩
              case measure => simp [intOf]; omega
        · obtain rfl : k = m := by omega
          have ik : ¬ (k : Int) < (k : Int) := by omega
          have hrt : r = true := by
            rw [HM.out.2.2.1]
            exact (mayC_iff zs).2 ⟨by have := HM.out.1; have := HM.out.2.2.2; omega, fun j hj => HK.out.1 j (by have := HM.out.1; omega)⟩
          subst hrt
          go_wp2_with fail
          go_ret
          exact ⟨rfl, rfl⟩

theorem diffC_zero (ss : List Int) (zs : List Int) : diffC (zs.take 0) ss = 0 := by rw [List.take_zero]; rfl
theorem diffC_le (a b : List Int) : diffC a b ≤ a.length := List.length_filter_le ..

set_option maxHeartbeats 2000000 in
theorem missing_own (A : Option Addr) (m c : Nat) (zs : List Int) (A' : Option Addr) (m' c' : Nat) (ss : List Int) (w : World) (h : Ints w (.slice A m c) zs) (h' : Ints w (.slice A' m' c') ss) (n : Int) (hn : n = (diffC zs ss : Int)) :
    Calls Tryd.prog 25 #[.slice A m c, .slice A' m' c'] w fun y w' => y = .returned (.int .i64 n) ∧ w = w' := by
  obtain ⟨hm, hmc, hcm, hat⟩ := h.at_
  have im : (m : Int) ≤ 9223372036854775807 := by omega
  have HM := Lib.hid (And.intro hm (And.intro hat hn))
  have HC := Lib.hid fun x => IndexI_has A' m' c' ss x w h' _ rfl
  clear h h' hm hmc hcm hat hn
  go_enter Tryd.func25, Tryd.ntmps25
  go_wp2_with fail
  go_loopw [5, 10] (fun nn ii wr => ∃ k : Nat, k ≤ m ∧ ii = .int .i64 (k : Int) ∧ nn = .int .i64 (diffC (zs.take k) ss : Int) ∧ w = wr) (fun _ ii _ => m - (intOf ii).toNat)
  case atStart => exact ⟨0, Nat.zero_le _, rfl, by rw [diffC_zero]; rfl, rfl⟩
  case round =>
    obtain ⟨k, hk, rfl, rfl, rfl⟩ := hrel
    have hdk : diffC (zs.take k) ss ≤ k := Nat.le_trans (diffC_le _ _) (by rw [List.length_take]; exact Nat.min_le_left _ _)
    by_cases hlt : k < m
    · obtain ⟨b, off, rfl, hb, hc⟩ := HM.out.2.1 (by omega)
      have g1 := hc k hlt
      have ik : (k : Int) < (m : Int) := by omega
      have ik0 : (0 : Int) ≤ (k : Int) := by omega
      have hnx := diffC_next (a := zs) (b := ss) (k := k) (by have := HM.out.1; omega)
      obtain ⟨z, hz⟩ : ∃ z, z = zs.getD k 0 := ⟨_, rfl⟩
      obtain ⟨d, hd⟩ : ∃ d, d = diffC (zs.take k) ss := ⟨_, rfl⟩
      rw [← hz] at g1 hnx
      rw [← hd] at hnx hdk ⊢
      clear hz hd hb hc
      by_cases hx : z ∈ ss
      · rw [if_pos hx] at hnx
        have hxb : decide (z ∈ ss) = true := decide_eq_true hx
        have HX := Lib.hid (HC.out z)
        rw [hxb] at HX
        have HN := Lib.hid hnx
        clear hx hxb hnx
        go_wp2_with (go_at_call 34; go_must (refine HX.out.mono ?_; rintro y w1 ⟨rfl, rfl⟩))
        go_roundw
        case rel => exact ⟨k + 1, by omega, by go_num, by rw [HN.out]; rfl, trivial⟩
        case measure => simp [intOf]; omega
      · rw [if_neg hx] at hnx
        have hxb : decide (z ∈ ss) = false := decide_eq_false hx
        have HX := Lib.hid (HC.out z)
        rw [hxb] at HX
        have HN := Lib.hid hnx
        clear hx hxb hnx
        go_wp2_with (go_at_call 34; go_must (refine HX.out.mono ?_; rintro y w1 ⟨rfl, rfl⟩))
        go_roundw
        case rel => exact ⟨k + 1, by omega, by go_num, by rw [HN.out]; congr 1, trivial⟩
        case measure => simp [intOf]; omega
    · obtain rfl : k = m := by omega
      have ik : ¬ (k : Int) < (k : Int) := by omega
      have hall : zs.take k = zs := List.take_of_length_le (by have := HM.out.1; omega)
      rw [hall, ← HM.out.2.2]
      clear hall hdk
      go_wp2_with fail
      go_ret
      exact ⟨rfl, rfl⟩

end Go.Proofs.YtgnonfnipifbiaaDoor.pk
