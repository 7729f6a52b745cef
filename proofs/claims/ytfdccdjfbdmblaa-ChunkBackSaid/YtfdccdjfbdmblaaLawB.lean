/-
  The law ChunkBack: walked.
-/
import Derived.Test.YtfdccdjfbdmblaaConK
namespace Go.Proofs.Ytfdccdjfbdmblaa.pk
open Go Go.RowKit
set_option maxRecDepth 100000

/-- How many pieces there are. -/
theorem pcs_at {t : List UInt8} {k : Nat} (h1 : 1 ≤ k) (h2 : k ≤ 20) : ∃ n : Nat, pcsK t (k : Int) = ((n : Int), 0) ∧ 1 ≤ n ∧ t.length ≤ n * k ∧ (0 < t.length → (n - 1) * k < t.length) ∧ (t.length = 0 → n = 1) := by
  unfold pcsK
  rw [if_neg (by omega)]
  by_cases h0 : t.length = 0
  · exact ⟨1, by rw [if_pos h0]; rfl, by omega, by omega, by omega, fun _ => rfl⟩
  · rw [if_neg h0]
    refine ⟨(t.length + k - 1) / k, by simp, ?_, ?_, ?_, fun h => absurd h h0⟩
    · exact (Nat.le_div_iff_mul_le (by omega)).2 (by omega)
    · have := Nat.lt_div_mul_add (a := t.length + k - 1) (b := k) (by omega)
      omega
    · intro _
      have := Nat.div_mul_le_self (t.length + k - 1) k
      rw [Nat.sub_mul]
      omega
/-- The i-th piece. -/
theorem cut_at {t : List UInt8} {k n i : Nat} (h1 : 1 ≤ k) (h2 : k ≤ 20) (hn1 : 1 ≤ n) (hn2 : t.length ≤ n * k) (hn3 : 0 < t.length → (n - 1) * k < t.length) (hn4 : t.length = 0 → n = 1) (hi : i < n) :
    cutK t ((t.take (i * k)).length : Int) (k : Int) = ((t.drop (i * k)).take k, decide (i + 1 = n), 0) ∧ t.take (i * k) ++ (t.drop (i * k)).take k = t.take ((i + 1) * k) ∧ ((t.drop (i * k)).take k).length ≤ k := by
  have hik : i * k ≤ (n - 1) * k := Nat.mul_le_mul_right k (by omega)
  have hsplit : (i + 1) * k = i * k + k := by rw [Nat.add_mul, Nat.one_mul]
  have hoff : (t.take (i * k)).length = i * k := by
    rw [List.length_take]
    by_cases h0 : t.length = 0
    · have := hn4 h0; have : i = 0 := by omega
      subst this; simp
    · have := hn3 (by omega); omega
  have hlast : t.length ≤ i * k + k ↔ i + 1 = n := by
    constructor
    · intro h
      refine Classical.byContradiction fun hne => ?_
      have h3 : (i + 1) * k ≤ (n - 1) * k := Nat.mul_le_mul_right k (by omega)
      have h4 : n ≠ 1 := by omega
      by_cases h0 : t.length = 0
      · exact h4 (hn4 h0)
      · have := hn3 (by omega); omega
    · intro h
      subst h
      omega
  refine ⟨?_, ?_, by rw [List.length_take]; omega⟩
  · rw [hoff]
    unfold cutK
    rw [if_neg (by omega), if_neg (by
      rintro (h | h | h)
      · omega
      · by_cases h0 : t.length = 0
        · have := hn4 h0; have : i = 0 := by omega
          subst this; omega
        · have := hn3 (by omega); omega
      · have := hn3 h.2; omega)]
    have ht : ((i * k : Nat) : Int).toNat = i * k := by omega
    by_cases hl : t.length ≤ i * k + k
    · rw [if_pos (by omega), ht, decide_eq_true (hlast.1 hl), List.take_of_length_le (by rw [List.length_drop]; omega)]
    · rw [if_neg (by omega), ht, decide_eq_false (fun e => hl (hlast.2 e))]
      simp
  · rw [hsplit, List.take_add]

set_option maxHeartbeats 4000000 in
theorem back_true (C : ConK) (A : Option Addr) (m c : Nat) (t : List UInt8) (size : Int) (w : World) (h : Bys w (.slice A m c) t) (hm : m ≤ 140737488355328) :
    Calls Try.prog 5 #[.slice A m c, .int .i64 size] w fun y w' => y = .returned (.bool true) ∧ Below w.heap.size w w' := by
  have hwr : IntKind.u64.wrap size = size % 18446744073709551616 := IntKind.wrap_u64 size
  have ha0 : 0 ≤ size % 18446744073709551616 := by omega
  generalize size % 18446744073709551616 = a at hwr ha0
  have hmt : a.tmod 20 = a % 20 := Int.tmod_eq_emod_of_nonneg ha0
  obtain ⟨N, hN⟩ : ∃ N : Nat, a % 20 = (N : Int) := ⟨(a % 20).toNat, by omega⟩
  rw [hN] at hmt
  have hN20 : (N : Int) < 20 := by omega
  have hwu : IntKind.u64.wrap (N : Int) = (N : Int) := by rw [IntKind.wrap_u64]; omega
  have hwi : IntKind.i64.wrap (N : Int) = (N : Int) := IntWalk.i64_in _ (by omega)
  have hws : IntKind.i64.wrap (1 + (N : Int)) = 1 + (N : Int) := IntWalk.i64_in _ (by omega)
  obtain ⟨k, hk⟩ : ∃ k : Nat, k = N + 1 := ⟨_, rfl⟩
  have hkI : 1 + (N : Int) = (k : Int) := by omega
  have hk1 : 1 ≤ k := by omega
  have hk2 : k ≤ 20 := by omega
  obtain ⟨n, hn0, hn1, hn2, hn3, hn4⟩ := pcs_at (t := t) hk1 hk2
  have hml := h.len_
  have HH := Lib.hid h
  have HP := Lib.hid fun (W : World) (hW : Below w.heap.size w W) => show Calls Try.prog 11 #[.slice A m c, .int .i64 (k : Int)] W fun y w' => y = .returned (.tuple #[.int .i64 (n : Int), .nilIface]) ∧ Below W.heap.size W w' from C.cPieces A m c t (k : Int) W (h.below hW) hm (by unfold inI; omega) _ hn0.symm
  have HK := Lib.hid (And.intro hk1 (And.intro hk2 (And.intro hn1 (And.intro hn2 (And.intro hn3 hn4)))))
  have HB := Lib.hid (Below.refl w.heap.size w)
  have HKI := Lib.hid hkI
  have HML := Lib.hid hml
  clear hN hn0 h ha0
  by_cases hbig : 2000 < m
  · have hg : 2000 < (m : Int) := by omega
    clear hbig hml hn1 hn2 hn3 hn4 hm hk hkI hk1 hk2
    go_enter Try.func5, Try.ntmps5
    go_upto_region 2 with fail
    rw [HKI.out]
    go_wp2_with (first
      | (go_at_call 11; go_must (refine (HP.out _ HB.out).mono ?_; rintro y w1 ⟨rfl, hb1⟩; have HB := Lib.hid (HB.out.trans (hb1.mono HB.out.size)); clear hb1))
      | (go_at_call 9; go_must (refine (sureK C _).mono ?_; rintro y w1 ⟨rfl, hb1⟩; have HB := Lib.hid (HB.out.trans (hb1.mono HB.out.size)); clear hb1)))
    go_ret
    exact ⟨rfl, HB.out⟩
  · have hg : ¬ 2000 < (m : Int) := by omega
    have HM := Lib.hid (show m ≤ 2000 by omega)
    have HN := Lib.hid (show (n : Int) ≤ 2001 by
      have h1 : n - 1 ≤ (n - 1) * k := Nat.le_mul_of_pos_right _ (by omega)
      by_cases h0 : 0 < t.length
      · have := hn3 h0; omega
      · have := hn4 (by omega); omega)
    clear hbig hml hn1 hn2 hn3 hn4 hm hk hkI hk1 hk2
    go_enter Try.func5, Try.ntmps5
    go_upto_region 2 with fail
    rw [HKI.out]
    clear hwr hmt hN20 hwu hwi hws
    go_wp2_with (first
      | (go_at_call 11; go_must (refine (HP.out _ HB.out).mono ?_; rintro y w1 ⟨rfl, hb1⟩; have HB := Lib.hid (HB.out.trans (hb1.mono HB.out.size)); clear hb1)))
    have HBS := HB
    clear HB
    go_loopw [8, 9] (fun v ii wr => ∃ (i : Nat), i ≤ n ∧ ii = .int .i64 (i : Int) ∧ wr.ownsRow w.heap.size 5 1 v (t.take (i * k)).length (Lib.byteCells (t.take (i * k))) ∧ Below w.heap.size w wr) (fun _ ii _ => n - (intOf ii).toNat)
    case atStart => exact ⟨0, Nat.zero_le _, rfl, by rw [Nat.zero_mul]; exact World.ownsRow_nil _ _ _ _, HBS.out⟩
    case round =>
      obtain ⟨i, hi, rfl, how, hbw⟩ := hrel
      have hI := Bys.of_own how
      obtain ⟨Av, cv, rfl, -, -⟩ := hI.form
      have HO := Lib.hid (And.intro how (And.intro hbw hI))
      obtain ⟨na, hna⟩ : ∃ na, na = (t.take (i * k)).length := ⟨_, rfl⟩
      have HNA := Lib.hid hna
      rw [← hna]
      clear how hbw hI hna
      have in1 : (n : Int) ≤ 2001 := HN.out
      by_cases hlt : i < n
      · have ii : (i : Int) < (n : Int) := by omega
        obtain ⟨e1, e2, e3⟩ := cut_at (t := t) HK.out.1 HK.out.2.1 HK.out.2.2.1 HK.out.2.2.2.1 HK.out.2.2.2.2.1 HK.out.2.2.2.2.2 hlt
        rw [← HNA.out] at e1
        obtain ⟨p, hp⟩ : ∃ p, p = (t.drop (i * k)).take k := ⟨_, rfl⟩
        rw [← hp] at e1 e2 e3
        have hlast : ((i : Int) == (n : Int) - 1) = decide (i + 1 = n) := by
          by_cases hx : i + 1 = n
          · rw [decide_eq_true hx, beq_iff_eq]; omega
          · rw [decide_eq_false hx, beq_eq_false_iff_ne]; omega
        obtain ⟨q, hq⟩ : ∃ q, q = decide (i + 1 = n) := ⟨_, rfl⟩
        rw [← hq] at e1 hlast
        have HC := Lib.hid fun W (hW : Below w.heap.size w W) => C.cCut A m c t (na : Int) (k : Int) W (HH.out.below hW) (by have := HM.out; omega) (by unfold inI; have := HNA.out; rw [List.length_take] at this; have := HM.out; have := HML.out; omega) (by have := HK.out.2.1; unfold inI; omega) _ e1.symm
        obtain ⟨np, hnp⟩ : ∃ np, np = p.length := ⟨_, rfl⟩
        have HPL := Lib.hid (And.intro hnp (And.intro e2 e3))
        have inp : ¬ (k : Int) < (np : Int) := by rw [hnp]; omega
        simp only [← hnp, er_zero] at HC
        have s1 : IntKind.i64.wrap ((n : Int) - 1) = (n : Int) - 1 := IntWalk.i64_in _ (by omega)
        clear e1 e2 e3 hp hq hnp
        go_wp2_with (first
          | (go_at_call 10; go_must (refine (HC.out _ HO.out.2.1).mono ?_; rintro y w2 ⟨A2, c2, rfl, hi2, hb2⟩; have HB2 := Lib.hid (HO.out.2.1.trans (hb2.mono HO.out.2.1.size)); have I2 := Lib.hid (And.intro hi2 (own_kept HO.out.1 hb2)); clear hi2 hb2))
          | (at_builtin; go_must (refine wpList_joinB (B := w.heap.size) (v := .slice Av na cv) (xs := t.take (i * k)) ?_ rfl (.tmp 66) (.tmp 67) rfl rfl A2 np c2 rfl p I2.out.1 ?_ HB2.out.size ?_)))
        · have := I2.out.2; rw [← HNA.out] at this ⊢; exact this
        · rw [← HNA.out]; have := HPL.out.2.2; have := HPL.out.1; have := HM.out; have := HK.out.2.1; have := HNA.out; have := HML.out; rw [List.length_take] at *; omega
        · intro v' w' ho hg
          have O := Lib.hid ho
          have O2 := Lib.hid (HB2.out.grown hg HB2.out.size (fun q hq => by have := I2.out.2; rw [← HNA.out] at this; exact (this.lt q hq).1))
          clear ho hg
          go_wp2_with fail
          go_roundw
          case rel => exact ⟨i + 1, by omega, by go_num, by rw [← HPL.out.2.1, List.length_append, List.length_take]; exact O.out, O2.out⟩
          case measure => simp [intOf]; omega
      · obtain rfl : i = n := by omega
        have ii : ¬ (i : Int) < (i : Int) := by omega
        have hall : t.take (i * k) = t := List.take_of_length_le HK.out.2.2.2.1
        rw [hall] at HO HNA
        have hv1 := conv_bytes (show Bys wr (.slice Av na cv) t by rw [HNA.out]; exact HO.out.2.2).sl_
        have hv2 := conv_bytes (HH.out.below HO.out.2.1).sl_
        clear hall
        go_wp2_with (go_at_call 9; go_must (refine (sureK C _).mono ?_; rintro y w1 ⟨rfl, hb1⟩; have HB := Lib.hid (HO.out.2.1.trans (hb1.mono HO.out.2.1.size)); clear hb1))
        go_ret
        exact ⟨rfl, HB.out⟩

end Go.Proofs.Ytfdccdjfbdmblaa.pk
