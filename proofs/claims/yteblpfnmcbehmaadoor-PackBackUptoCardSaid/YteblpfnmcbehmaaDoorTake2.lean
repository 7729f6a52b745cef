/-
  The functions of the package pack that take a whole thing off the begin of bytes: a number, an int, a truth, bytes.
-/
import Derived.Test.YteblpfnmcbehmaaDoorTake
import Derived.BigQuiet
import Derived.Outline
namespace Go.Proofs.YteblpfnmcbehmaaDoor.pk
open Go Go.RowKit
set_option maxRecDepth 100000

theorem signed_plus (a : Int) (w : World) (h0 : 0 ≤ a) (h1 : a ≤ 9223372036854775807) :
    Calls Tryd.prog 52 #[.int .u64 a, .bool false] w fun e w' => e = .returned (.tuple #[.int .i64 a, .nilIface]) ∧ w = w' := by
  go_enter Tryd.func52, Tryd.ntmps52
  go_wp2
  go_ret2
  exact ⟨rfl, rfl⟩
theorem signed_plus_err (a : Int) (w : World) (h0 : 9223372036854775807 < a) :
    Calls Tryd.prog 52 #[.int .u64 a, .bool false] w fun e w' => e = .returned (.tuple #[.int .i64 0, .iface 79 (.int .i64 4)]) ∧ w = w' := by
  go_enter Tryd.func52, Tryd.ntmps52
  go_wp2
  go_ret2
  exact ⟨rfl, rfl⟩
theorem signed_nought (w : World) :
    Calls Tryd.prog 52 #[.int .u64 0, .bool true] w fun e w' => e = .returned (.tuple #[.int .i64 0, .iface 79 (.int .i64 3)]) ∧ w = w' := by
  go_enter Tryd.func52, Tryd.ntmps52
  go_wp2
  go_ret2
  exact ⟨rfl, rfl⟩
theorem signed_minus (a : Int) (w : World) (h0 : 1 ≤ a) (h1 : a ≤ 9223372036854775808) :
    Calls Tryd.prog 52 #[.int .u64 a, .bool true] w fun e w' => e = .returned (.tuple #[.int .i64 (-a), .nilIface]) ∧ w = w' := by
  have hz : (a == 0) = false := by simp; omega
  go_enter Tryd.func52, Tryd.ntmps52
  go_wp2
  go_ret2
  refine ⟨?_, rfl⟩
  show Ending.returned (.tuple #[.int .i64 (-(a - 1) - 1), .nilIface]) = _
  rw [show -(a - 1) - 1 = -a from by omega]
theorem signed_minus_err (a : Int) (w : World) (h0 : 9223372036854775808 < a) (h1 : a < 18446744073709551616) :
    Calls Tryd.prog 52 #[.int .u64 a, .bool true] w fun e w' => e = .returned (.tuple #[.int .i64 0, .iface 79 (.int .i64 4)]) ∧ w = w' := by
  have hz : (a == 0) = false := by simp; omega
  go_enter Tryd.func52, Tryd.ntmps52
  go_wp2
  go_ret2
  exact ⟨rfl, rfl⟩

theorem takeUint_ok (A : Option Addr) (n c most m : Nat) (bs rest : List UInt8) (w : World) (hs : Std w) {B : Nat} (hB : B ≤ w.heap.size) (h : Sl w B (.slice A n c) bs) (hr : rdUint most bs = (0, m, rest)) :
    Calls Tryd.prog 35 #[.slice A n c, .int .u64 (most : Int)] w fun x w' => ∃ A' c', x = .returned (.tuple #[.int .u64 (m : Int), .slice A' rest.length c', .nilIface]) ∧ Sl w' B (.slice A' rest.length c') rest ∧ Below w.heap.size w w' := by
  obtain ⟨hh, hm⟩ := rdUint_ok hr
  have c1 := Lib.hid (takeHead_ok A n c 110 59 bs w hs hB h (by decide) m rest hh)
  have hi : (m : Int) ≤ (most : Int) := by omega
  clear hr h hh hm
  go_enter Tryd.func35, Tryd.ntmps35
  go_wp2_with (go_at_call 49; refine c1.out.mono ?_; rintro x w' ⟨A1, k1, rfl, h1, hb⟩; have H1 := Lib.hid h1; clear h1)
  go_ret3
  exact ⟨A1, k1, rfl, H1.out, hb⟩

theorem takeUint_err (A : Option Addr) (n c most k m : Nat) (bs rest : List UInt8) (w : World) (hs : Std w) {B : Nat} (hB : B ≤ w.heap.size) (h : Sl w B (.slice A n c) bs) (hr : rdUint most bs = (k, m, rest)) (hk : k ≠ 0) :
    Calls Tryd.prog 35 #[.slice A n c, .int .u64 (most : Int)] w fun x w' => x = .returned (.tuple #[.int .u64 0, .slice none 0 0, .iface 79 (.int .i64 (k : Int))]) ∧ Below w.heap.size w w' := by
  rcases rdUint_err hr hk with ⟨n1, r1, hh⟩ | ⟨rfl, n1, r1, hh, hm⟩
  · have c1 := Lib.hid (takeHead_err A n c 110 59 bs w hs hB h (by decide) k n1 r1 hh hk)
    clear hr h hh hk
    go_enter Tryd.func35, Tryd.ntmps35
    go_wp2_with (go_at_call 49; refine c1.out.mono ?_; rintro x w' ⟨v1, rfl, hb⟩)
    go_ret3
    exact ⟨rfl, hb⟩
  · have c1 := Lib.hid (takeHead_ok A n c 110 59 bs w hs hB h (by decide) n1 r1 hh)
    have hi : (most : Int) < (n1 : Int) := by omega
    clear hr h hh hk hm
    go_enter Tryd.func35, Tryd.ntmps35
    go_wp2_with (go_at_call 49; refine c1.out.mono ?_; rintro x w' ⟨A1, k1, rfl, h1, hb⟩; clear h1)
    go_ret3
    exact ⟨rfl, hb⟩

theorem takeBool_end (A : Option Addr) (c : Nat) (w : World) :
    Calls Tryd.prog 45 #[.slice A 0 c] w fun x w' => x = .returned (.tuple #[.bool false, .slice none 0 0, .iface 79 (.int .i64 12)]) ∧ w = w' := by
  go_enter Tryd.func45, Tryd.ntmps45
  go_wp2
  go_ret3
  exact ⟨rfl, rfl⟩

theorem takeBool_ok (A : Option Addr) (n c : Nat) (b : Bool) (bs rest : List UInt8) (w : World) {B : Nat} (h : Sl w B (.slice A n c) bs) (hr : rdBool bs = (0, b, rest)) :
    Calls Tryd.prog 45 #[.slice A n c] w fun x w' => ∃ A' c', x = .returned (.tuple #[.bool b, .slice A' rest.length c', .nilIface]) ∧ Sl w' B (.slice A' rest.length c') rest ∧ Below w.heap.size w w' := by
  rcases bs with _ | ⟨d, r⟩
  · simp [rdBool] at hr
  · have hcase : (d = 121 ∧ b = true ∧ rest = r) ∨ (d = 122 ∧ b = false ∧ rest = r) := by
      rw [rdBool_cons] at hr
      by_cases h1 : d = 121
      · rw [if_pos h1] at hr
        simp only [Prod.mk.injEq, true_and] at hr
        exact Or.inl ⟨h1, hr.1.symm, hr.2.symm⟩
      · rw [if_neg h1] at hr
        by_cases h2 : d = 122
        · rw [if_pos h2] at hr
          simp only [Prod.mk.injEq, true_and] at hr
          exact Or.inr ⟨h2, hr.1.symm, hr.2.symm⟩
        · rw [if_neg h2] at hr; simp at hr
    clear hr
    obtain ⟨b0, off, rfl, hb0, rfl, hn, hc, hcell⟩ := h.head
    have H := Lib.hid h
    clear h hb0
    have i1 : (1 : Int) ≤ (r.length : Int) + 1 := by omega
    have i2 : (r.length : Int) + 1 ≤ (c : Int) := by omega
    have HB := Below.refl w.heap.size w
    by_cases hc1 : c = 1
    · subst hc1
      obtain rfl : r = [] := List.eq_nil_of_length_eq_zero (by omega)
      have HT := Lib.hid H.out.tail_one
      rcases hcase with ⟨rfl, rfl, rfl⟩ | ⟨rfl, rfl, rfl⟩
      all_goals
        replace hcell : w.cell? ⟨b0, off, none⟩ = some (.int .u8 _) := hcell
        go_enter Tryd.func45, Tryd.ntmps45
        go_wp2
        go_quiet (fail)
        go_wp2
        go_ret3
        exact ⟨_, _, rfl, HT.out, below_drewN HB _⟩
    · have HT := Lib.hid (H.out.tail_more hc1)
      rcases hcase with ⟨rfl, rfl, rfl⟩ | ⟨rfl, rfl, rfl⟩
      all_goals
        replace hcell : w.cell? ⟨b0, off, none⟩ = some (.int .u8 _) := hcell
        go_enter Tryd.func45, Tryd.ntmps45
        go_wp2
        go_quiet (fail)
        go_wp2
        go_ret3
        exact ⟨_, _, rfl, HT.out, below_drewN HB _⟩

theorem takeBool_err (A : Option Addr) (n c k : Nat) (b : Bool) (bs rest : List UInt8) (w : World) {B : Nat} (h : Sl w B (.slice A n c) bs) (hr : rdBool bs = (k, b, rest)) (hk : k ≠ 0) :
    Calls Tryd.prog 45 #[.slice A n c] w fun x w' => x = .returned (.tuple #[.bool false, .slice none 0 0, .iface 79 (.int .i64 (k : Int))]) ∧ Below w.heap.size w w' := by
  rcases bs with _ | ⟨d, r⟩
  · obtain ⟨rfl, _, _⟩ := h.len
    simp only [rdBool, Prod.mk.injEq] at hr
    obtain ⟨rfl, rfl, rfl⟩ := hr
    refine (takeBool_end A c w).mono ?_
    rintro x w' ⟨rfl, rfl⟩
    exact ⟨rfl, Below.refl _ _⟩
  · have hcase : d ≠ 121 ∧ d ≠ 122 ∧ k = 3 := by
      rw [rdBool_cons] at hr
      by_cases h1 : d = 121
      · rw [if_pos h1] at hr
        simp only [Prod.mk.injEq] at hr
        exact absurd hr.1.symm hk
      · rw [if_neg h1] at hr
        by_cases h2 : d = 122
        · rw [if_pos h2] at hr
          simp only [Prod.mk.injEq] at hr
          exact absurd hr.1.symm hk
        · rw [if_neg h2] at hr
          simp only [Prod.mk.injEq] at hr
          exact ⟨h1, h2, hr.1.symm⟩
    obtain ⟨h1, h2, rfl⟩ := hcase
    clear hr
    obtain ⟨b0, off, rfl, hb0, rfl, hn, hc, hcell⟩ := h.head
    have y1 : ((d.toNat : Int) == 121) = false := by
      rw [beq_eq_false_iff_ne]; intro e; exact h1 (UInt8.toNat_inj.1 (by show d.toNat = 121; omega))
    have y2 : ((d.toNat : Int) == 122) = false := by
      rw [beq_eq_false_iff_ne]; intro e; exact h2 (UInt8.toNat_inj.1 (by show d.toNat = 122; omega))
    have HB := Below.refl w.heap.size w
    clear h hb0 h1 h2 hk
    go_enter Tryd.func45, Tryd.ntmps45
    go_wp2
    go_ret3
    exact ⟨rfl, HB⟩

theorem takeBytes_ok (A : Option Addr) (n c : Nat) (letter : UInt8) (most : Int) (bs s rest : List UInt8) (w : World) (hs : Std w) (hm : most ≤ 9223372036854775807) {B : Nat} (hB : B ≤ w.heap.size) (h : Sl w B (.slice A n c) bs) (hr : rdBytes letter most bs = (0, s, rest)) :
    Calls Tryd.prog 46 #[.slice A n c, .int .u8 (letter.toNat : Int), .int .i64 most] w fun x w' => ∃ A1 c1 A' c', x = .returned (.tuple #[.slice A1 s.length c1, .slice A' rest.length c', .nilIface]) ∧ Sl w' B (.slice A1 s.length c1) s ∧ Sl w' B (.slice A' rest.length c') rest ∧ Below w.heap.size w w' := by
  obtain ⟨h0, m, r, hh, hmm, hmr, rfl, rfl⟩ := rdBytes_ok hr
  have c1 := Lib.hid (takeHead_ok A n c letter 58 bs w hs hB h (by decide) m r hh)
  have i0 : (0 : Int) ≤ (m : Int) := by omega
  have i1 : (m : Int) ≤ (r.length : Int) := by omega
  clear hr h hh
  go_enter Tryd.func46, Tryd.ntmps46
  go_wp2_with fail
  refine c1.out.mono ?_
  rintro x w' ⟨A1, k1, rfl, h1, hb⟩
  obtain ⟨_, hl1, hl2⟩ := h1.len
  have i2 : (r.length : Int) ≤ (k1 : Int) := by omega
  have i3 : (r.length : Int) ≤ 9223372036854775807 := by omega
  have hf := h1.front hmr
  have hcut := h1.cut (k := m) hmr
  have e1 : (r.take m).length = m := by rw [List.length_take]; omega
  have e2 : (r.drop m).length = r.length - m := by rw [List.length_drop]
  have HF := Lib.hid hf
  have E1 := Lib.hid e1
  have E2 := Lib.hid e2
  by_cases hk : k1 = m
  · obtain rfl : m = r.length := by omega
    subst hk
    rw [if_pos rfl] at hcut
    have e0 : r.length - r.length = 0 := by omega
    rw [e0, List.drop_eq_nil_of_le (Nat.le_refl _)] at hcut
    have E0 := Lib.hid (List.drop_eq_nil_of_le (Nat.le_refl r.length))
    have HC := Lib.hid hcut
    clear h1 hf hcut e1 e2 e0
    go_wp2
    go_quiet (fail)
    go_wp2
    go_ret3
    refine ⟨A1, r.length, A1, 0, ?_, ?_, ?_, below_drewN hb _⟩
    · rw [E1.out, E0.out]; rfl
    · rw [E1.out]; exact HF.out
    · rw [E0.out]; exact HC.out
  · rw [if_neg hk] at hcut
    have HC := Lib.hid hcut
    clear h1 hf hcut e1 e2
    go_wp2
    go_quiet (fail)
    go_wp2
    go_ret3
    refine ⟨A1, k1, A1.map (·.add m), k1 - m, ?_, ?_, ?_, below_drewN hb _⟩
    · rw [E1.out, E2.out]; rfl
    · rw [E1.out]; exact HF.out
    · rw [E2.out]; exact HC.out

theorem takeBytes_err (A : Option Addr) (n c k : Nat) (letter : UInt8) (most : Int) (bs s rest : List UInt8) (w : World) (hs : Std w) (hm : most ≤ 9223372036854775807) {B : Nat} (hB : B ≤ w.heap.size) (h : Sl w B (.slice A n c) bs) (hr : rdBytes letter most bs = (k, s, rest)) (hk : k ≠ 0) :
    Calls Tryd.prog 46 #[.slice A n c, .int .u8 (letter.toNat : Int), .int .i64 most] w fun x w' => x = .returned (.tuple #[.slice none 0 0, .slice none 0 0, .iface 79 (.int .i64 (k : Int))]) ∧ Below w.heap.size w w' := by
  have HB := Below.refl w.heap.size w
  rcases rdBytes_err hr hk with ⟨rfl, h0⟩ | ⟨h0, ⟨m, r, hh⟩ | ⟨m, r, hh, ⟨rfl, h1⟩ | ⟨rfl, h1, h2⟩⟩⟩
  · clear h hr hk
    go_enter Tryd.func46, Tryd.ntmps46
    go_wp2
    go_ret3
    exact ⟨rfl, HB⟩
  · have c1 := Lib.hid (takeHead_err A n c letter 58 bs w hs hB h (by decide) k m r hh hk)
    clear h hr hh hk
    go_enter Tryd.func46, Tryd.ntmps46
    go_wp2_with (go_at_call 49; refine c1.out.mono ?_; rintro x w' ⟨v1, rfl, hb⟩)
    go_ret3
    exact ⟨rfl, hb⟩
  · have c1 := Lib.hid (takeHead_ok A n c letter 58 bs w hs hB h (by decide) m r hh)
    clear h hr hh hk
    go_enter Tryd.func46, Tryd.ntmps46
    go_wp2_with (go_at_call 49; refine c1.out.mono ?_; rintro x w' ⟨A1, k1, rfl, hx, hb⟩; clear hx)
    go_ret3
    exact ⟨rfl, hb⟩
  · have c1 := Lib.hid (takeHead_ok A n c letter 58 bs w hs hB h (by decide) m r hh)
    have i1 : (r.length : Int) < (m : Int) := by omega
    clear h hr hh hk h2
    go_enter Tryd.func46, Tryd.ntmps46
    go_wp2_with fail
    refine c1.out.mono ?_
    rintro x w' ⟨A1, k1, rfl, hx, hb⟩
    obtain ⟨_, hl1, hl2⟩ := hx.len
    have i3 : (r.length : Int) ≤ 9223372036854775807 := by omega
    clear hx
    go_wp2
    go_ret3
    exact ⟨rfl, hb⟩

theorem signed_ok (n : Nat) (neg : Bool) (v : Int) (w : World) (hn : n < 18446744073709551616) (h : sgn n neg = (0, v)) :
    Calls Tryd.prog 52 #[.int .u64 (n : Int), .bool neg] w fun e w' => e = .returned (.tuple #[.int .i64 v, .nilIface]) ∧ w = w' := by
  unfold sgn at h
  cases neg with
  | false =>
    rw [if_pos rfl] at h
    by_cases h1 : n ≤ 9223372036854775807
    · rw [if_pos h1] at h
      simp only [Prod.mk.injEq, true_and] at h
      subst h
      exact signed_plus _ w (by omega) (by omega)
    · rw [if_neg h1] at h; simp at h
  | true =>
    rw [if_neg (by decide)] at h
    by_cases h0 : n = 0
    · rw [if_pos h0] at h; simp at h
    · rw [if_neg h0] at h
      by_cases h1 : n ≤ 9223372036854775808
      · rw [if_pos h1] at h
        simp only [Prod.mk.injEq, true_and] at h
        subst h
        exact signed_minus _ w (by omega) (by omega)
      · rw [if_neg h1] at h; simp at h
theorem signed_err (n k : Nat) (neg : Bool) (v : Int) (w : World) (hn : n < 18446744073709551616) (h : sgn n neg = (k, v)) (hk : k ≠ 0) :
    Calls Tryd.prog 52 #[.int .u64 (n : Int), .bool neg] w fun e w' => e = .returned (.tuple #[.int .i64 0, .iface 79 (.int .i64 (k : Int))]) ∧ w = w' := by
  unfold sgn at h
  cases neg with
  | false =>
    rw [if_pos rfl] at h
    by_cases h1 : n ≤ 9223372036854775807
    · rw [if_pos h1] at h
      simp only [Prod.mk.injEq] at h
      exact absurd h.1.symm hk
    · rw [if_neg h1] at h
      simp only [Prod.mk.injEq] at h
      obtain ⟨rfl, rfl⟩ := h
      exact signed_plus_err _ w (by omega)
  | true =>
    rw [if_neg (by decide)] at h
    by_cases h0 : n = 0
    · rw [if_pos h0] at h
      simp only [Prod.mk.injEq] at h
      obtain ⟨rfl, rfl⟩ := h
      subst h0
      exact signed_nought w
    · rw [if_neg h0] at h
      by_cases h1 : n ≤ 9223372036854775808
      · rw [if_pos h1] at h
        simp only [Prod.mk.injEq] at h
        exact absurd h.1.symm hk
      · rw [if_neg h1] at h
        simp only [Prod.mk.injEq] at h
        obtain ⟨rfl, rfl⟩ := h
        exact signed_minus_err _ w (by omega) (by omega)

end Go.Proofs.YteblpfnmcbehmaaDoor.pk
