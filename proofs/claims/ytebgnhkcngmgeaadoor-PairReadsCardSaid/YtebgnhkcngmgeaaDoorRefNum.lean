/-
  The reference's number of digits: what it answers for any text.
-/
import Derived.Test.YtebgnhkcngmgeaaDoorAmt
import Derived.Test.YtebgnhkcngmgeaaDoorSl
import Derived.Outline
namespace Go.Proofs.YtebgnhkcngmgeaaDoor.pk
open Go Go.RowKit
set_option maxRecDepth 100000

theorem ret_i {a b : Int} (h : a = b) : Ending.returned (.int .i64 a) = .returned (.int .i64 b) := by rw [h]
/-- A number, or -1. -/
def numZ : Option Nat → Int
  | none => -1
  | some n => n
theorem take_next (s : ByteArray) (k : Nat) (h : k < s.size) : s.data.toList.take (k + 1) = s.data.toList.take k ++ [s[k]] := by
  rw [List.take_succ_eq_append_getElem (by simpa using h)]; rfl
theorem dval_lt : ∀ (n : Nat) (l : List UInt8), l.length = n → l.all isDig = true → dval l < 10 ^ n := by
  intro n
  induction n with
  | zero => intro l hl _; rw [List.eq_nil_of_length_eq_zero hl]; exact Nat.zero_lt_one
  | succ n ih =>
    intro l hl hd
    have hn : l ≠ [] := fun e => by rw [e] at hl; cases hl
    obtain ⟨m, c, rfl⟩ : ∃ m c, l = m ++ [c] := ⟨l.dropLast, l.getLast hn, (List.dropLast_concat_getLast hn).symm⟩
    have hm : m.length = n := by simp at hl; exact hl
    rw [List.all_eq_true] at hd
    have h1 := ih m hm (by rw [List.all_eq_true]; exact fun x hx => hd x (by simp [hx]))
    have hc := hd c (by simp)
    unfold isDig at hc
    rw [Bool.and_eq_true] at hc
    have c2 : c.toNat ≤ 57 := of_decide_eq_true hc.2
    rw [dval_snoc, Nat.pow_succ]
    omega
theorem dval_small {l : List UInt8} (h : l.length ≤ 13) (hd : l.all isDig = true) : dval l < 10000000000000 :=
  Nat.lt_of_lt_of_le (dval_lt _ l rfl hd) (Nat.pow_le_pow_right (by omega) h)
theorem isDig_of (c : UInt8) (h1 : 48 ≤ (c.toNat : Int)) (h2 : (c.toNat : Int) ≤ 57) : isDig c = true := by
  unfold isDig
  rw [decide_eq_true (by omega), decide_eq_true (by omega)]
  rfl
theorem not_dig (c : UInt8) (h : (c.toNat : Int) < 48 ∨ 57 < (c.toNat : Int)) : isDig c = false := by
  unfold isDig
  rcases h with h | h
  · rw [decide_eq_false (by omega)]; rfl
  · rw [decide_eq_false (p := c.toNat ≤ 57) (by omega), Bool.and_false]
theorem numT_bad {s : ByteArray} {k : Nat} (hk : k < s.size) (h : isDig s[k] = false) : numT s.data.toList = none := by
  unfold numT
  rw [if_pos]
  refine Or.inr (Or.inr (Or.inr ?_))
  cases h' : s.data.toList.all isDig with
  | false => rfl
  | true =>
    rw [List.all_eq_true] at h'
    have := h' s[k] (by
      have : s[k] = s.data.toList[k]'(by simpa using hk) := rfl
      rw [this]
      exact List.getElem_mem _)
    rw [h] at this
    cases this
theorem len_of (s : ByteArray) : s.data.toList.length = s.size := by cases s; rfl

set_option maxHeartbeats 4000000 in
theorem numberR_any (s : ByteArray) (w : World) (hs : s.size ≤ maxLen) :
    Calls Tryd.prog 11 #[.string s] w fun e w' => e = .returned (.int .i64 (numZ (numT s.data.toList))) ∧ w' = w := by
  unfold maxLen at hs
  have hlen := len_of s
  by_cases h0 : s.size = 0
  · have e0 : s.data.toList = [] := List.eq_nil_of_length_eq_zero (by omega)
    have e1 : s.toList = [] := by rw [ByteArray.toList_eq, e0]
    have et : s.toList.isEmpty = true := by rw [e1]; rfl
    have en : numT s.data.toList = none := by unfold numT; rw [if_pos (Or.inl e0)]
    rw [en]
    clear en e0
    go_enter Tryd.func11, Tryd.ntmps11
    go_wp2
    go_ret
    exact ⟨rfl, rfl⟩
  · have e1 : ¬ s.toList = [] := fun e => h0 (by rw [← hlen, ← ByteArray.toList_eq, e]; rfl)
    have et : s.toList.isEmpty = false := by
      cases h : s.toList with
      | nil => exact absurd h e1
      | cons a r => rfl
    by_cases h1 : 13 < s.size
    · have en : numT s.data.toList = none := numT_long (by omega)
      rw [en]
      clear en
      have i1 : 13 < (s.size : Int) := by omega
      go_enter Tryd.func11, Tryd.ntmps11
      go_wp2
      go_ret
      exact ⟨rfl, rfl⟩
    · have i1 : ¬ 13 < (s.size : Int) := by omega
      have h00 : 0 < s.size := by omega
      have hok : (¬ (1 < s.size ∧ s.data.toList.head? = some 48)) → s.data.toList.all isDig = true → numT s.data.toList = some (dval s.data.toList) := by
        intro g1 g2
        unfold numT
        rw [if_neg]
        rintro (g | g | g | g)
        · rw [g] at hlen; exact h0 hlen.symm
        · omega
        · rw [hlen] at g; exact g1 g
        · rw [g] at g2; cases g2
      have h4 : s.data.toList.head? = some s[0] := by
        rw [List.head?_eq_getElem?, List.getElem?_eq_getElem (by omega)]
        rfl
      have hcase : (1 < s.size ∧ (s[0].toNat : Int) = 48) ∨ (1 < s.size ∧ ¬ (s[0].toNat : Int) = 48) ∨ ¬ 1 < s.size := by omega
      have hcase' : (1 < s.size ∧ (s[0].toNat : Int) = 48) ∨ ((1 < s.size ∧ ¬ (s[0].toNat : Int) = 48 ∨ ¬ 1 < s.size) ∧ ¬ (1 < s.size ∧ s.data.toList.head? = some 48)) := by
        rcases hcase with g | g | g
        · exact Or.inl g
        · refine Or.inr ⟨Or.inl g, fun g' => ?_⟩
          rw [h4] at g'
          have := g'.2
          injection this with this
          exact g.2 (by rw [this]; rfl)
        · exact Or.inr ⟨Or.inr g, fun g' => g g'.1⟩
      clear hcase
      rcases hcase' with ⟨h2, h3⟩ | ⟨hc, hh⟩
      · have en : numT s.data.toList = none := by
          unfold numT
          rw [if_pos]
          refine Or.inr (Or.inr (Or.inl ⟨by omega, ?_⟩))
          rw [h4]
          exact congrArg some (UInt8.toNat_inj.1 (by show s[0].toNat = 48; omega))
        rw [en]
        clear en hok h4
        have i2 : 1 < (s.size : Int) := by omega
        go_enter Tryd.func11, Tryd.ntmps11
        go_wp2
        go_ret
        exact ⟨rfl, rfl⟩
      · have HK := Lib.hid (hok hh)
        have HL := Lib.hid hlen
        clear hok h4 hh hlen
        rcases hc with ⟨h2, h3⟩ | h2
        all_goals
          go_enter Tryd.func11, Tryd.ntmps11
          go_wp2
          clear h2 et e1
          go_loop [3, 4] (fun n i => ∃ k : Nat, k ≤ s.size ∧ (s.data.toList.take k).all isDig = true ∧ i = .int .i64 k ∧ n = .int .i64 (dval (s.data.toList.take k) : Nat)) (fun _ i => s.size - (intOf i).toNat)
          case atStart => exact ⟨0, Nat.zero_le _, rfl, rfl, rfl⟩
          case round =>
            obtain ⟨k, hk, hd, rfl, rfl⟩ := hrel
            have hsm := dval_small (l := s.data.toList.take k) (by rw [List.length_take]; omega) hd
            obtain ⟨v, hv⟩ : ∃ v, v = dval (s.data.toList.take k) := ⟨_, rfl⟩
            rw [← hv] at hsm ⊢
            have HV := Lib.hid hv
            have HD := Lib.hid hd
            clear hv hd
            have hvi : (v : Int) < 10000000000000 := by omega
            clear hsm
            by_cases hlt : k < s.size
            · have hki : (k : Int) < (s.size : Int) := by omega
              by_cases c1 : (s[k].toNat : Int) < 48
              · have EN := Lib.hid (numT_bad hlt (not_dig _ (Or.inl c1)))
                go_wp2
                go_ret
                exact ⟨ret_i (by rw [EN.out]; rfl), rfl⟩
              · by_cases c2 : 57 < (s[k].toNat : Int)
                · have EN := Lib.hid (numT_bad hlt (not_dig _ (Or.inr c2)))
                  go_wp2
                  go_ret
                  exact ⟨ret_i (by rw [EN.out]; rfl), rfl⟩
                · have c3 : 48 ≤ (s[k].toNat : Int) := by omega
                  have c4 : (s[k].toNat : Int) ≤ 57 := by omega
                  go_wp2
                  go_round
                  case rel =>
                    have hs1 := take_next s k hlt
                    refine ⟨k + 1, by omega, ?_, by go_num, ?_⟩
                    · rw [hs1, List.all_append, HD.out, Bool.true_and, List.all_cons, isDig_of _ c3 c4]
                      rfl
                    · rw [hs1, dval_snoc, ← HV.out]
                      refine congrArg (Value.int .i64) ?_
                      omega
                  case measure => simp [intOf]; omega
            · have hkk : k = s.size := by omega
              subst hkk
              have ht : s.data.toList.take s.size = s.data.toList := List.take_of_length_le (by rw [HL.out]; exact Nat.le_refl _)
              have hn := HK.out (by rw [← ht]; exact HD.out)
              rw [ht] at HV
              rw [← HV.out] at hn
              have EN := Lib.hid hn
              clear hn ht
              go_wp2
              go_ret
              exact ⟨ret_i (by rw [EN.out]; rfl), rfl⟩

end Go.Proofs.YtebgnhkcngmgeaaDoor.pk
