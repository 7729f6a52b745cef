/-
  The reference's amount of two numbers, and of a text: what they answer.
-/
import Derived.Test.YtebgnhkcngmgeaaDoorRefNum
import Derived.Lib.Strings
import Derived.Deep.QuietTactic
import Derived.BigQuiet
namespace Go.Proofs.YtebgnhkcngmgeaaDoor.pk
open Go Go.RowKit Ieee
set_option maxRecDepth 100000

/-- An amount as a value; none is nought. -/
def amtV : Option (Nat × Nat) → Value
  | some a => .complex .f64 (fB a.1) (fB a.2)
  | none => .complex .f64 0 0
/-- An error's number: of nothing, k. -/
def errK (k : Nat) : Option (Nat × Nat) → Nat
  | some _ => 0
  | none => k
theorem fl_of {x : Nat} (h : x ≤ mostN) : floatOfInt .f64 (x : Int) = fB x := fB_nearest (Nat.lt_of_le_of_lt h mostN_lt)

set_option maxHeartbeats 4000000 in
theorem ofR_any (a b : Option Nat) (w : World) :
    Calls Tryd.prog 10 #[.int .i64 (numZ a), .int .i64 (numZ b)] w fun e w' => e = .returned (.tuple #[amtV (pairOf a b), .int .i64 (errK 1 (pairOf a b) : Nat)]) ∧ w' = w := by
  cases a with
  | none =>
    show Calls Tryd.prog 10 #[.int .i64 (-1), .int .i64 (numZ b)] w fun e w' => e = .returned (.tuple #[.complex .f64 0 0, .int .i64 1]) ∧ w' = w
    go_enter Tryd.func10, Tryd.ntmps10
    go_wp2
    go_ret2
    exact ⟨rfl, rfl⟩
  | some x =>
    by_cases h1 : x ≤ mostN
    · cases b with
      | none =>
        show Calls Tryd.prog 10 #[.int .i64 (x : Int), .int .i64 (-1)] w fun e w' => e = .returned (.tuple #[.complex .f64 0 0, .int .i64 1]) ∧ w' = w
        have i1 : (x : Int) ≤ 1099511627776 := by unfold mostN at h1; omega
        go_enter Tryd.func10, Tryd.ntmps10
        go_wp2
        go_ret2
        exact ⟨rfl, rfl⟩
      | some y =>
        by_cases h2 : y ≤ mostN
        · have hp : pairOf (some x) (some y) = some (x, y) := if_pos ⟨h1, h2⟩
          rw [hp]
          show Calls Tryd.prog 10 #[.int .i64 (x : Int), .int .i64 (y : Int)] w fun e w' => e = .returned (.tuple #[.complex .f64 (fB x) (fB y), .int .i64 0]) ∧ w' = w
          have i1 : (x : Int) ≤ 1099511627776 := by unfold mostN at h1; omega
          have i2 : (y : Int) ≤ 1099511627776 := by unfold mostN at h2; omega
          have f1 := fl_of h1
          have f2 := fl_of h2
          clear hp h1 h2
          go_enter Tryd.func10, Tryd.ntmps10
          go_wp2
          go_ret2
          exact ⟨rfl, rfl⟩
        · have hp : pairOf (some x) (some y) = none := if_neg fun h => h2 h.2
          rw [hp]
          show Calls Tryd.prog 10 #[.int .i64 (x : Int), .int .i64 (y : Int)] w fun e w' => e = .returned (.tuple #[.complex .f64 0 0, .int .i64 1]) ∧ w' = w
          have i1 : (x : Int) ≤ 1099511627776 := by unfold mostN at h1; omega
          have i2 : ¬ (y : Int) ≤ 1099511627776 := by unfold mostN at h2; omega
          clear hp h1 h2
          go_enter Tryd.func10, Tryd.ntmps10
          go_wp2
          go_ret2
          exact ⟨rfl, rfl⟩
    · have hp : pairOf (some x) b = none := by
        cases b with
        | none => rfl
        | some y => exact if_neg fun h => h1 h.1
      rw [hp]
      show Calls Tryd.prog 10 #[.int .i64 (x : Int), .int .i64 (numZ b)] w fun e w' => e = .returned (.tuple #[.complex .f64 0 0, .int .i64 1]) ∧ w' = w
      have i1 : ¬ (x : Int) ≤ 1099511627776 := by unfold mostN at h1; omega
      clear hp h1
      go_enter Tryd.func10, Tryd.ntmps10
      go_wp2
      go_ret2
      exact ⟨rfl, rfl⟩

theorem slash_of (c : UInt8) (h : (c.toNat : Int) = 47) : c = 47 := UInt8.toNat_inj.1 (by show c.toNat = 47; omega)
theorem split_at (s : ByteArray) (k : Nat) (hk : k < s.size) (hc : s[k] = 47) : s.data.toList = s.data.toList.take k ++ 47 :: s.data.toList.drop (k + 1) := by
  have h1 := take_next s k hk
  rw [hc] at h1
  have h2 := List.take_append_drop (k + 1) s.data.toList
  rw [h1, List.append_assoc] at h2
  exact h2.symm
/-- No sign of the parts' border among the first k. -/
def NoCut (s : ByteArray) (k : Nat) : Prop := ∀ c ∈ s.data.toList.take k, c ≠ 47
theorem NoCut.next {s : ByteArray} {k : Nat} (h : NoCut s k) (hk : k < s.size) (hc : ¬ (s[k].toNat : Int) = 47) : NoCut s (k + 1) := fun c hm => by
  rw [take_next s k hk, List.mem_append, List.mem_singleton] at hm
  rcases hm with hm | hm
  · exact h c hm
  · rw [hm]
    intro e
    exact hc (by rw [e]; rfl)
theorem readP_at {s : ByteArray} {k : Nat} (h : NoCut s k) (hk : k < s.size) (hc : (s[k].toNat : Int) = 47) : readP s.data.toList = pairOf (numT (s.extract 0 k).data.toList) (numT (s.extract (k + 1) s.size).data.toList) := by
  have e1 : (s.extract 0 k).data.toList = s.data.toList.take k := by rw [Lib.extract_data]; rfl
  have e2 : (s.extract (k + 1) s.size).data.toList = s.data.toList.drop (k + 1) := by
    rw [Lib.extract_data, List.take_of_length_le]
    rw [List.length_drop, len_of]
    exact Nat.le_refl _
  rw [e1, e2]
  have h2 := split_at s k hk (slash_of _ hc)
  have h3 := readP_split (a := s.data.toList.take k) (r := s.data.toList.drop (k + 1)) h
  rw [← h2] at h3
  exact h3
theorem readP_no {s : ByteArray} (h : NoCut s s.size) : readP s.data.toList = none := readP_none fun c hc => h c (by rw [List.take_of_length_le (by rw [len_of]; exact Nat.le_refl _)]; exact hc)
theorem readP_late {s : ByteArray} {k : Nat} (h : NoCut s k) (hk : k ≤ s.size) (h13 : 13 < k) : readP s.data.toList = none := by
  unfold readP
  split
  · rfl
  · rename_i c r hd
    have hn : numT (s.data.toList.takeWhile (· != 47)) = none := by
      refine numT_long ?_
      have h1 : s.data.toList = s.data.toList.take k ++ s.data.toList.drop k := (List.take_append_drop k _).symm
      have h2 : ((s.data.toList.take k ++ s.data.toList.drop k).takeWhile (· != 47)) = s.data.toList.take k ++ (s.data.toList.drop k).takeWhile (· != 47) := List.takeWhile_append_of_pos (fun c hc => by simpa using h c hc)
      rw [h1, h2, List.length_append, List.length_take, len_of]
      omega
    rw [hn]
    rfl

set_option maxHeartbeats 400000 in
theorem readR_any (s : ByteArray) (w : World) (hs : s.size ≤ maxLen) :
    Calls Tryd.prog 5 #[.string s] w fun e w' => e = .returned (.tuple #[amtV (readP s.data.toList), .int .i64 (errK 3 (readP s.data.toList) : Nat)]) ∧ ∃ k, w' = w.drewN k := by
  have hs' := hs
  unfold maxLen at hs
  go_enter Tryd.func5, Tryd.ntmps5
  go_wp2
  go_loopw [4, 5, 6] (fun ii _ _ W => ∃ k : Nat, k ≤ s.size ∧ k ≤ 20 ∧ NoCut s k ∧ ii = .int .i64 k ∧ W = w) (fun ii _ _ _ => 20 - (intOf ii).toNat)
  case atStart => exact ⟨0, Nat.zero_le _, Nat.zero_le _, fun c hc => (by cases hc), rfl, by first | rfl | trivial⟩
  case round =>
    obtain ⟨k, hk, hk20, hcut, rfl, rfl⟩ := hrel
    have HC := Lib.hid hcut
    clear hcut
    by_cases hlt : k < s.size
    · have hki : (k : Int) < (s.size : Int) := by omega
      by_cases h20 : k < 20
      · have hk2 : (k : Int) < 20 := by omega
        by_cases hc : (s[k].toNat : Int) = 47
        · have EN := readP_at HC.out hlt hc
          have b1 : (s.extract 0 k).size ≤ maxLen := by rw [← len_of, Lib.extract_data, List.length_take, List.length_drop, len_of]; omega
          have b2 : (s.extract (k + 1) s.size).size ≤ maxLen := by rw [← len_of, Lib.extract_data, List.length_take, List.length_drop, len_of]; omega
          obtain ⟨s1, hx1⟩ : ∃ s1, s.extract 0 k = s1 := ⟨_, rfl⟩
          obtain ⟨s2, hx2⟩ : ∃ s2, s.extract (k + 1) s.size = s2 := ⟨_, rfl⟩
          rw [hx1] at b1
          rw [hx2] at b2
          rw [hx1, hx2] at EN
          have EN2 := Lib.hid EN
          have hk1 : ((k : Int) + 1).toNat = k + 1 := by omega
          clear EN
          go_wp2_with fail
          go_quiet (first
            | (go_at_call 11; exact Calls.quiet_of_same (numberR_any _ _ (by assumption)))
            | (go_at_call 10; exact Calls.quiet_of_same (ofR_any _ _ _)))
          obtain ⟨p, hp⟩ : ∃ p, pairOf (numT s1.data.toList) (numT s2.data.toList) = p := ⟨_, rfl⟩
          cases p with
          | none =>
            rw [hp]
            have EN3 := Lib.hid (EN2.out.trans hp)
            clear hp EN2
            simp only [amtV, errK]
            go_wp2
            go_ret2
            exact ⟨by rw [EN3.out]; rfl, _, rfl⟩
          | some a =>
            rw [hp]
            have EN3 := Lib.hid (EN2.out.trans hp)
            clear hp EN2
            simp only [amtV, errK]
            go_wp2
            go_ret2
            exact ⟨by rw [EN3.out]; rfl, _, rfl⟩
        · go_wp2
          go_roundw
          case rel => exact ⟨k + 1, by omega, by omega, HC.out.next hlt hc, by go_num, by first | rfl | trivial⟩
          case measure => simp [intOf]; omega
      · have hk2 : ¬ (k : Int) < 20 := by omega
        have EN := Lib.hid (readP_late HC.out hk (by omega))
        go_wp2
        go_ret2
        exact ⟨by rw [EN.out]; rfl, 0, rfl⟩
    · have hkk : k = s.size := by omega
      subst hkk
      have EN := Lib.hid (readP_no HC.out)
      go_wp2
      go_ret2
      exact ⟨by rw [EN.out]; rfl, 0, rfl⟩

end Go.Proofs.YtebgnhkcngmgeaaDoor.pk
