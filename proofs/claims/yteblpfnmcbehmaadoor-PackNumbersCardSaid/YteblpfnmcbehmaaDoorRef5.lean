/-
  The document's own reader: each call in one statement.
-/
import Derived.Test.YteblpfnmcbehmaaDoorRef4b
import Derived.Test.YteblpfnmcbehmaaDoorRef4c
import Derived.Test.YteblpfnmcbehmaaDoorRef4d
import Derived.Test.YteblpfnmcbehmaaDoorRd2
namespace Go.Proofs.YteblpfnmcbehmaaDoor.pk
open Go Go.RowKit
set_option maxRecDepth 100000

theorem headK_ne {l : UInt8} {bs : List UInt8} (h : headK l bs ≠ 0) : ∀ e, hd l e bs = (headK l bs, 0, []) := by
  intro e
  cases bs with
  | nil => rfl
  | cons c r =>
    by_cases hc : c = l
    · simp [headK, hc] at h
    · rw [hd_cons, if_neg hc]; simp [headK, hc]
theorem headK_eq {l : UInt8} {bs : List UInt8} (h : headK l bs = 0) : ∃ r, bs = l :: r := by
  cases bs with
  | nil => simp [headK] at h
  | cons c r =>
    by_cases hc : c = l
    · exact ⟨r, by rw [hc]⟩
    · simp [headK, hc] at h

theorem ReadUint_any (A : Option Addr) (n c k : Nat) (most : Nat) (bs : List UInt8) (w : World) {B : Nat} (hB : B ≤ w.heap.size) (h : Sl w B (.slice A n c) bs) :
    Calls Tryd.prog 16 #[.agg #[.slice A n c, .int .i64 (k : Int)], .int .u64 (most : Int)] w fun x w' =>
      ∃ A' c', x = .returned (.tuple #[.agg #[.slice A' (rUint most (bs, k)).1.1.length c', .int .i64 ((rUint most (bs, k)).1.2 : Int)], .int .u64 ((rUint most (bs, k)).2 : Int)]) ∧ Sl w' B (.slice A' (rUint most (bs, k)).1.1.length c') (rUint most (bs, k)).1.1 ∧ Below w.heap.size w w' := by
  obtain ⟨hn, _, _⟩ := h.len
  by_cases hk : (if k = 0 then headK 110 bs else k) = 0
  · by_cases h0 : k = 0
    · subst h0
      rw [if_pos rfl] at hk
      obtain ⟨r, rfl⟩ := headK_eq hk
      rcases hr : scan 59 [] r with ⟨k1, m, rest⟩
      have hrd : rdUint most (110 :: r) = if k1 = 0 then (if most < m then (4, 0, []) else (0, m, rest)) else (k1, 0, []) := by
        unfold rdUint
        rw [hd_cons, if_pos rfl, hr]
        cases k1 with
        | zero => rfl
        | succ k => rfl
      by_cases hk1 : k1 = 0
      · subst hk1
        rw [if_pos rfl] at hrd
        by_cases hm : most < m
        · rw [if_pos hm] at hrd
          have e : rUint most (110 :: r, 0) = ((110 :: r, 4), 0) := by simp [rUint, hrd]
          rw [e]
          refine (ReadUint_dig A n c most r 0 m rest w hB h hr 4 (Or.inr ⟨rfl, hm, rfl⟩)).mono ?_
          rintro x w' ⟨rfl, hb⟩
          subst hn
          exact ⟨A, c, rfl, h.below (hb.mono hB), hb⟩
        · rw [if_neg hm] at hrd
          have e : rUint most (110 :: r, 0) = ((rest, 0), m) := by simp [rUint, hrd]
          rw [e]
          exact ReadUint_ok A n c most r m rest w hB h hr (by omega)
      · rw [if_neg hk1] at hrd
        have e : rUint most (110 :: r, 0) = ((110 :: r, k1), 0) := by simp [rUint, hrd, hk1]
        rw [e]
        refine (ReadUint_dig A n c most r k1 m rest w hB h hr k1 (Or.inl ⟨hk1, rfl⟩)).mono ?_
        rintro x w' ⟨rfl, hb⟩
        subst hn
        exact ⟨A, c, rfl, h.below (hb.mono hB), hb⟩
    · rw [if_neg h0] at hk
      exact absurd hk h0
  · have e : rUint most (bs, k) = ((bs, if k = 0 then headK 110 bs else k), 0) := by
      by_cases h0 : k = 0
      · subst h0
        rw [if_pos rfl] at hk ⊢
        have hh := headK_ne hk 59
        obtain ⟨j, hj⟩ : ∃ j, headK 110 bs = j + 1 := ⟨headK 110 bs - 1, by omega⟩
        rw [hj] at hh ⊢
        simp [rUint, rdUint, hh]
      · rw [if_neg h0]; simp [rUint, h0]
    rw [e]
    refine (ReadUint_err A n c k most bs _ w hB h rfl hk).mono ?_
    rintro x w' ⟨rfl, hb⟩
    subst hn
    exact ⟨A, c, rfl, h.below (hb.mono hB), hb⟩

theorem ReadInt_any (A : Option Addr) (n c k : Nat) (bs : List UInt8) (w : World) {B : Nat} (hB : B ≤ w.heap.size) (h : Sl w B (.slice A n c) bs) :
    Calls Tryd.prog 17 #[.agg #[.slice A n c, .int .i64 (k : Int)]] w fun x w' =>
      ∃ A' c', x = .returned (.tuple #[.agg #[.slice A' (rInt (bs, k)).1.1.length c', .int .i64 ((rInt (bs, k)).1.2 : Int)], .int .i64 (rInt (bs, k)).2]) ∧ Sl w' B (.slice A' (rInt (bs, k)).1.1.length c') (rInt (bs, k)).1.1 ∧ Below w.heap.size w w' := by
  obtain ⟨hn, _, _⟩ := h.len
  by_cases hk : (if k = 0 then headK 105 bs else k) = 0
  · by_cases h0 : k = 0
    · subst h0
      rw [if_pos rfl] at hk
      obtain ⟨r, rfl⟩ := headK_eq hk
      by_cases hp : r.head? = some 45
      · obtain ⟨r', rfl⟩ : ∃ r', r = 45 :: r' := by
          cases r with
          | nil => simp at hp
          | cons d r' => simp only [List.head?_cons, Option.some.injEq] at hp; exact ⟨r', by rw [hp]⟩
        rcases hr : scan 59 [] r' with ⟨k1, m, rest⟩
        have hrd : rdInt (105 :: 45 :: r') = if k1 = 0 then (if (sgn m true).1 = 0 then (0, (sgn m true).2, rest) else ((sgn m true).1, 0, [])) else (k1, 0, []) := by
          rw [rdInt_cons, if_pos rfl]
          simp only [List.head?_cons, if_true, List.tail_cons, hr]
          cases k1 with
          | zero => simp
          | succ k => simp
        by_cases hk1 : k1 = 0
        · subst hk1
          rw [if_pos rfl] at hrd
          by_cases hm0 : m = 0
          · subst hm0
            have e : rInt (105 :: 45 :: r', 0) = ((105 :: 45 :: r', 3), 0) := by simp [rInt, hrd, sgn]
            rw [e]
            refine (ReadInt_minus_err A n c r' 0 0 rest w hB h hr 3 (Or.inr (Or.inr ⟨rfl, rfl, rfl⟩))).mono ?_
            rintro x w' ⟨rfl, hb⟩
            subst hn
            exact ⟨A, c, rfl, h.below (hb.mono hB), hb⟩
          · by_cases hm : m ≤ 9223372036854775808
            · have e : rInt (105 :: 45 :: r', 0) = ((rest, 0), -(m : Int)) := by simp [rInt, hrd, sgn, hm0, hm]
              rw [e]
              exact ReadInt_minus_ok A n c r' m rest w hB h hr (by omega) hm
            · have e : rInt (105 :: 45 :: r', 0) = ((105 :: 45 :: r', 4), 0) := by simp [rInt, hrd, sgn, hm0, hm]
              rw [e]
              refine (ReadInt_minus_err A n c r' 0 m rest w hB h hr 4 (Or.inr (Or.inl ⟨rfl, by omega, rfl⟩))).mono ?_
              rintro x w' ⟨rfl, hb⟩
              subst hn
              exact ⟨A, c, rfl, h.below (hb.mono hB), hb⟩
        · rw [if_neg hk1] at hrd
          have e : rInt (105 :: 45 :: r', 0) = ((105 :: 45 :: r', k1), 0) := by simp [rInt, hrd, hk1]
          rw [e]
          refine (ReadInt_minus_err A n c r' k1 m rest w hB h hr k1 (Or.inl ⟨hk1, rfl⟩)).mono ?_
          rintro x w' ⟨rfl, hb⟩
          subst hn
          exact ⟨A, c, rfl, h.below (hb.mono hB), hb⟩
      · rcases hr : scan 59 [] r with ⟨k1, m, rest⟩
        have hrd : rdInt (105 :: r) = if k1 = 0 then (if (sgn m false).1 = 0 then (0, (sgn m false).2, rest) else ((sgn m false).1, 0, [])) else (k1, 0, []) := by
          rw [rdInt_cons, if_pos rfl]
          simp only [if_neg hp, hr]
          cases k1 with
          | zero => simp [hp]
          | succ k => simp
        by_cases hk1 : k1 = 0
        · subst hk1
          rw [if_pos rfl] at hrd
          by_cases hm : m ≤ 9223372036854775807
          · have e : rInt (105 :: r, 0) = ((rest, 0), (m : Int)) := by simp [rInt, hrd, sgn, hm]
            rw [e]
            exact ReadInt_plus_ok A n c r m rest w hB h hp hr hm
          · have e : rInt (105 :: r, 0) = ((105 :: r, 4), 0) := by simp [rInt, hrd, sgn, hm]
            rw [e]
            refine (ReadInt_plus_err A n c r 0 m rest w hB h hp hr 4 (Or.inr ⟨rfl, by omega, rfl⟩)).mono ?_
            rintro x w' ⟨rfl, hb⟩
            subst hn
            exact ⟨A, c, rfl, h.below (hb.mono hB), hb⟩
        · rw [if_neg hk1] at hrd
          have e : rInt (105 :: r, 0) = ((105 :: r, k1), 0) := by simp [rInt, hrd, hk1]
          rw [e]
          refine (ReadInt_plus_err A n c r k1 m rest w hB h hp hr k1 (Or.inl ⟨hk1, rfl⟩)).mono ?_
          rintro x w' ⟨rfl, hb⟩
          subst hn
          exact ⟨A, c, rfl, h.below (hb.mono hB), hb⟩
    · rw [if_neg h0] at hk
      exact absurd hk h0
  · have e : rInt (bs, k) = ((bs, if k = 0 then headK 105 bs else k), 0) := by
      by_cases h0 : k = 0
      · subst h0
        rw [if_pos rfl] at hk ⊢
        cases bs with
        | nil => rfl
        | cons d r =>
          by_cases hd' : d = 105
          · simp [headK, hd'] at hk
          · simp [rInt, rdInt_cons, headK, hd']
      · rw [if_neg h0]; simp [rInt, h0]
    rw [e]
    refine (ReadInt_err A n c k bs _ w hB h rfl hk).mono ?_
    rintro x w' ⟨rfl, hb⟩
    subst hn
    exact ⟨A, c, rfl, h.below (hb.mono hB), hb⟩

theorem RefDone_dn (A : Option Addr) (c : Nat) (s : List UInt8 × Nat) (w : World) :
    Calls Tryd.prog 21 #[.agg #[.slice A s.1.length c, .int .i64 (s.2 : Int)]] w fun x w' => x = .returned (.int .i64 (dn s : Int)) ∧ Below w.heap.size w w' := by
  have h := RefDone_any A s.1.length c s.2 w
  have e : (if s.2 = 0 then (if s.1.length = 0 then 0 else 3) else s.2) = dn s := by
    unfold dn
    by_cases h2 : s.1 = []
    · rw [h2]; simp
    · have : s.1.length ≠ 0 := fun h => h2 (List.eq_nil_of_length_eq_zero h)
      simp [this, h2]
  rw [e] at h
  exact h

end Go.Proofs.YteblpfnmcbehmaaDoor.pk
