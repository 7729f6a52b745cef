/-
  The program's own pieces: Cut and Pieces.
-/
import Derived.Test.YtfdccdjfbdmblaaHk2
namespace Go.Proofs.Ytfdccdjfbdmblaa.pk
open Go Go.RowKit
set_option maxRecDepth 100000

theorem Bys.recap {w : World} {A : Option Addr} {n c c' : Nat} {bs : List UInt8} (h : Bys w (.slice A n c) bs) (h1 : n ≤ c') (h2 : c' ≤ 9223372036854775807) : Bys w (.slice A n c') bs := by
  obtain ⟨A', c0, hv, _, _, h3⟩ := h
  injection hv with e1 e2 e3
  subst e1; subst e2; subst e3
  exact ⟨A, c', rfl, h1, h2, h3⟩
theorem Bys.mid {w : World} {A : Option Addr} {n c : Nat} {bs : List UInt8} (h : Bys w (.slice A n c) bs) (o d : Nat) (hd : 0 < d) (ho : o + d ≤ n) : Bys w (.slice (A.map (fun x => x.add o)) d d) ((bs.drop o).take d) := by
  obtain ⟨hn, hnc, hcm, -⟩ := h.at_
  have h1 := SlT.cut h (k := o) (by omega)
  rw [if_neg (by omega)] at h1
  have h2 := SlT.front h1 (k := d) (by rw [List.length_drop]; omega)
  exact Bys.recap h2 (Nat.le_refl _) (by omega)

theorem kcut_ret {A : Option Addr} {n c : Nat} {b b' : Bool} (h : b = b') : Ending.returned (.tuple #[.slice A n c, .bool b, .nilIface]) = Ending.returned (.tuple #[.slice A n c, .bool b', er 0]) := by rw [h]; rfl
set_option maxHeartbeats 4000000 in
theorem Cut_any (A : Option Addr) (m c : Nat) (t : List UInt8) (off size : Int) (w : World) (h : Bys w (.slice A m c) t) (hm : m ≤ 100000) (ho : inI off) (hs : inI size) (r : List UInt8 × Bool × Nat) (hr : r = cutK t off size) :
    Calls Try.prog 10 #[.slice A m c, .int .i64 off, .int .i64 size] w fun y w' => ∃ A1 c1, y = .returned (.tuple #[.slice A1 r.1.length c1, .bool r.2.1, er r.2.2]) ∧ Bys w' (.slice A1 r.1.length c1) r.1 ∧ Below w.heap.size w w' := by
  have hlen := h.len_
  obtain ⟨-, hmc, hcm, -⟩ := h.at_
  have HS := Lib.hid (sizeMay_any size w _ rfl)
  unfold inI at ho hs
  cases hsz : szK size with
  | false =>
    rw [hsz] at HS
    have hsz := szK_false.1 hsz
    obtain rfl : r = ([], false, 1) := by rw [hr]; unfold cutK; rw [if_pos (by omega)]
    clear h hlen hmc hcm ho hs hr hsz
    go_enter Try.func10, Try.ntmps10
    go_wp2_with (go_at_call 15; go_must (refine HS.out.mono ?_; rintro y w1 ⟨rfl, rfl⟩))
    go_ret3
    exact ⟨none, 0, rfl, Bys.nil_ _, Below.refl _ _⟩
  | true =>
    rw [hsz] at HS
    have hsz := szK_true.1 hsz
    have hcase : ((off < 0 ∨ (¬ off < 0 ∧ (m : Int) < off) ∨ (¬ off < 0 ∧ ¬ (m : Int) < off ∧ off = (m : Int) ∧ 0 < off)) ∧ r = ([], false, 4)) ∨ (¬ off < 0 ∧ ¬ (m : Int) < off ∧ (¬ off = (m : Int) ∨ ¬ 0 < off)) := by
      by_cases c1 : off < 0
      · exact Or.inl ⟨Or.inl c1, by rw [hr]; unfold cutK; rw [if_neg (by omega), if_pos (Or.inl c1)]⟩
      · by_cases c2 : (m : Int) < off
        · exact Or.inl ⟨Or.inr (Or.inl ⟨c1, c2⟩), by rw [hr]; unfold cutK; rw [if_neg (by omega), if_pos (by omega)]⟩
        · by_cases c3 : off = (m : Int)
          · by_cases c4 : 0 < off
            · exact Or.inl ⟨Or.inr (Or.inr ⟨c1, c2, c3, c4⟩), by rw [hr]; unfold cutK; rw [if_neg (by omega), if_pos (by omega)]⟩
            · exact Or.inr ⟨c1, c2, Or.inr c4⟩
          · exact Or.inr ⟨c1, c2, Or.inl c3⟩
    rcases hcase with ⟨hbad, hr4⟩ | ⟨k1, k2, k3⟩
    · obtain rfl : r = ([], false, 4) := hr4
      have in1 : (m : Int) ≤ 100000 := by omega
      clear h hlen hmc hcm ho hs hr hsz
      rcases hbad with k1 | ⟨k1, k2⟩ | ⟨k1, k2, rfl, k4⟩
      all_goals
        go_enter Try.func10, Try.ntmps10
        go_wp2_with (go_at_call 15; go_must (refine HS.out.mono ?_; rintro y w1 ⟨rfl, rfl⟩))
        go_ret3
        exact ⟨none, 0, rfl, Bys.nil_ _, Below.refl _ _⟩
    · obtain ⟨o, rfl⟩ : ∃ o : Nat, off = (o : Int) := ⟨off.toNat, by omega⟩
      obtain ⟨s, rfl⟩ : ∃ s : Nat, size = (s : Int) := ⟨size.toNat, by omega⟩
      have in1 : (m : Int) ≤ 100000 := by omega
      have in2 : (s : Int) ≤ 1048576 := by omega
      have in3 : (o : Int) ≤ (m : Int) := by omega
      obtain ⟨d, rfl⟩ : ∃ d, m = o + d := ⟨m - o, by omega⟩
      have hk : (o : Int) + (d : Int) ≤ (c : Int) := by omega
      have HH := Lib.hid (And.intro h (And.intro hlen (And.intro hmc (And.intro hcm (And.intro hr (And.intro hsz k3))))))
      rw [Int.natCast_add] at in1 in3
      clear h hlen hmc hcm ho hs hr hsz hm k1 k2 k3
      have hcs : (d = 0 ∧ o = 0) ∨ (0 < d ∧ (d : Int) < (s : Int)) ∨ (0 < d ∧ d = s) ∨ (0 < d ∧ (s : Int) < (d : Int)) := by have := HH.out.2.2.2.2.2.2; omega
      rcases hcs with ⟨rfl, rfl⟩ | ⟨c1, c2⟩ | ⟨c1, rfl⟩ | ⟨c1, c2⟩
      · obtain rfl : t = [] := List.eq_nil_of_length_eq_zero (by have := HH.out.2.1; omega)
        obtain rfl : r = ([], true, 0) := by have h1 := HH.out.2.2.2.2.1; have h2 := HH.out.2.2.2.2.2.1; rw [h1]; unfold cutK; rw [if_neg (by omega), if_neg (by simp), if_pos (by simp only [List.length_nil]; omega)]; rfl
        have hs0 : ¬ (s : Int) ≤ 0 := by have := HH.out.2.2.2.2.2.1; omega
        have HC := Lib.hid (CloneK w A 0 0 [] (Bys.recap HH.out.1 (Nat.le_refl _) (by omega)) (by omega))
        go_enter Try.func10, Try.ntmps10
        go_upto_region 7 with (go_at_call 15; go_must (refine HS.out.mono ?_; rintro y w1 ⟨rfl, rfl⟩))
        go_wp2_with (go_at_call 13; go_must (refine HC.out.mono ?_; rintro y w1 ⟨A1, c1, rfl, hd1, hb1⟩; have HB := Lib.hid (And.intro hd1 hb1); clear hd1 hb1))
        go_ret3
        exact ⟨A1, c1, rfl, HB.out.1.mono fun _ hk => hk.2, HB.out.2⟩
      · obtain ⟨p, hp⟩ : ∃ p, p = t.drop o := ⟨_, rfl⟩
        have hpl : p.length = d := by have := HH.out.2.1; rw [hp, List.length_drop]; omega
        obtain rfl : r = (p, true, 0) := by have h1 := HH.out.2.2.2.2.1; have h2 := HH.out.2.2.2.2.2.1; have h3 := HH.out.2.1; rw [h1]; unfold cutK; rw [if_neg (by omega), if_neg (by omega), if_pos (by omega), hp]; simp
        have HC := Lib.hid (CloneK w _ d d ((t.drop o).take d) (HH.out.1.mid o d c1 (Nat.le_refl _)) (by omega))
        rw [List.take_of_length_le (by rw [← hp]; omega), ← hp] at HC
        have c3 : ¬ (s : Int) ≤ (d : Int) := by omega
        have e1 : o + (o + d - o) - o = d := by omega
        have e2 : (o : Int) + ((o : Int) + (d : Int) - (o : Int)) = (o : Int) + (d : Int) := by omega
        have HP := Lib.hid (And.intro hpl (And.intro e1 e2))
        clear hp hpl e1 e2
        go_enter Try.func10, Try.ntmps10
        go_upto_region 7 with (go_at_call 15; go_must (refine HS.out.mono ?_; rintro y w1 ⟨rfl, rfl⟩))
        rw [HP.out.2.1, HP.out.2.2]
        go_wp2_with (go_at_call 13; go_must (refine HC.out.mono ?_; rintro y w1 ⟨A1, c1, rfl, hd1, hb1⟩; have HB := Lib.hid (And.intro hd1 hb1); clear hd1 hb1))
        go_ret3
        exact ⟨A1, c1, by rw [HP.out.1]; rfl, by rw [HP.out.1]; exact HB.out.1.mono fun _ hk => hk.2, HB.out.2⟩
      · obtain ⟨p, hp⟩ : ∃ p, p = t.drop o := ⟨_, rfl⟩
        have hpl : p.length = d := by have := HH.out.2.1; rw [hp, List.length_drop]; omega
        obtain rfl : r = (p, true, 0) := by have h1 := HH.out.2.2.2.2.1; have h2 := HH.out.2.2.2.2.2.1; have h3 := HH.out.2.1; rw [h1]; unfold cutK; rw [if_neg (by omega), if_neg (by omega), if_pos (by omega), hp]; simp
        have HC := Lib.hid (CloneK w _ d d ((t.drop o).take d) (HH.out.1.mid o d c1 (Nat.le_refl _)) (by omega))
        rw [List.take_of_length_le (by rw [← hp]; omega), ← hp] at HC
        have e1 : o + d - o = d := by omega
        have HP := Lib.hid (And.intro hpl e1)
        clear hp hpl e1
        go_enter Try.func10, Try.ntmps10
        go_upto_region 7 with (go_at_call 15; go_must (refine HS.out.mono ?_; rintro y w1 ⟨rfl, rfl⟩))
        try rw [HP.out.2]
        go_wp2_with (go_at_call 13; go_must (refine HC.out.mono ?_; rintro y w1 ⟨A1, c1, rfl, hd1, hb1⟩; have HB := Lib.hid (And.intro hd1 hb1); clear hd1 hb1))
        go_ret3
        exact ⟨A1, c1, by rw [HP.out.1]; rfl, by rw [HP.out.1]; exact HB.out.1.mono fun _ hk => hk.2, HB.out.2⟩
      · obtain ⟨p, hp⟩ : ∃ p, p = (t.drop o).take s := ⟨_, rfl⟩
        have hpl : p.length = s := by have := HH.out.2.1; rw [hp, List.length_take, List.length_drop]; omega
        obtain rfl : r = (p, false, 0) := by have h1 := HH.out.2.2.2.2.1; have h2 := HH.out.2.2.2.2.2.1; have h3 := HH.out.2.1; rw [h1]; unfold cutK; rw [if_neg (by omega), if_neg (by omega), if_neg (by omega), hp]; simp
        have HC := Lib.hid (CloneK w _ s s ((t.drop o).take s) (HH.out.1.mid o s (by have := HH.out.2.2.2.2.2.1; omega) (by omega)) (by omega))
        rw [← hp] at HC
        have e1 : o + s - o = s := by omega
        have e2 : ¬ (s : Int) = (d : Int) := by omega
        have E3 := Lib.hid (show ((o : Int) + (s : Int) == (o : Int) + (d : Int)) = false from beq_eq_false_iff_ne.2 (by omega))
        have c5 : ¬ (d : Int) < (s : Int) := by omega
        have c7 : ¬ s = 0 := by have := HH.out.2.2.2.2.2.1; omega
        have c6 : (o : Int) + (s : Int) ≤ (c : Int) := by omega
        have HP := Lib.hid (And.intro hpl e1)
        clear hp hpl e1
        go_enter Try.func10, Try.ntmps10
        go_upto_region 7 with (go_at_call 15; go_must (refine HS.out.mono ?_; rintro y w1 ⟨rfl, rfl⟩))
        try rw [HP.out.2]
        go_wp2_with (go_at_call 13; go_must (refine HC.out.mono ?_; rintro y w1 ⟨A1, c1, rfl, hd1, hb1⟩; have HB := Lib.hid (And.intro hd1 hb1); clear hd1 hb1))
        go_ret3
        exact ⟨A1, c1, by rw [HP.out.1]; exact kcut_ret E3.out, by rw [HP.out.1]; exact HB.out.1.mono fun _ hk => hk.2, HB.out.2⟩

set_option maxHeartbeats 4000000 in
theorem Pieces_any (A : Option Addr) (m c : Nat) (t : List UInt8) (size : Int) (w : World) (h : Bys w (.slice A m c) t) (hm : m ≤ 140737488355328) (hs : inI size) (r : Int × Nat) (hr : r = pcsK t size) :
    Calls Try.prog 11 #[.slice A m c, .int .i64 size] w fun y w' => y = .returned (.tuple #[.int .i64 r.1, er r.2]) ∧ Below w.heap.size w w' := by
  have hlen := h.len_
  have HS := Lib.hid (sizeMay_any size w _ rfl)
  unfold inI at hs
  cases hsz : szK size with
  | false =>
    rw [hsz] at HS
    have hsz := szK_false.1 hsz
    obtain rfl : r = (0, 1) := by rw [hr]; unfold pcsK; rw [if_pos (by omega)]
    clear h hlen hs hr hsz hm
    go_enter Try.func11, Try.ntmps11
    go_wp2_with (go_at_call 15; go_must (refine HS.out.mono ?_; rintro y w1 ⟨rfl, rfl⟩))
    go_ret2
    exact ⟨rfl, Below.refl _ _⟩
  | true =>
    rw [hsz] at HS
    have hsz := szK_true.1 hsz
    obtain ⟨s, rfl⟩ : ∃ s : Nat, size = (s : Int) := ⟨size.toNat, by omega⟩
    have in1 : (m : Int) ≤ 140737488355328 := by omega
    have in2 : (s : Int) ≤ 1048576 := by omega
    have in3 : ¬ (s : Int) = 0 := by omega
    obtain ⟨q, hq⟩ : ∃ q, q = m / s := ⟨_, rfl⟩
    have hqi : (m : Int) / (s : Int) = (q : Int) := by rw [hq, Int.natCast_ediv]
    have hqm : q ≤ m := by rw [hq]; exact Nat.div_le_self _ _
    have in4 : (q : Int) ≤ 140737488355328 := by omega
    have hdm := Nat.div_add_mod m s
    rw [← hq] at hdm
    have hcs : (m = 0 ∧ r = (1, 0)) ∨ (¬ m = 0 ∧ 0 < m % s ∧ r = ((q : Int) + 1, 0)) ∨ (¬ m = 0 ∧ m % s = 0 ∧ r = ((q : Int), 0)) := by
      rw [hr]
      unfold pcsK
      rw [if_neg (by omega), ← hlen, Int.toNat_natCast]
      by_cases h0 : m = 0
      · exact Or.inl ⟨h0, by rw [if_pos h0]⟩
      · right
        rw [if_neg h0]
        by_cases h1 : m % s = 0
        · right
          refine ⟨h0, h1, ?_⟩
          have : (m + s - 1) / s = q := by
            rw [show m + s - 1 = (s - 1) + s * q by omega, Nat.add_mul_div_left _ _ (by omega), Nat.div_eq_of_lt (by omega), Nat.zero_add]
          rw [this]
        · left
          refine ⟨h0, by omega, ?_⟩
          have hl := Nat.mod_lt m (show s > 0 by omega)
          have : (m + s - 1) / s = q + 1 := by
            rw [show m + s - 1 = (m % s - 1) + s * (q + 1) by rw [Nat.mul_add, Nat.mul_one]; omega, Nat.add_mul_div_left _ _ (by omega), Nat.div_eq_of_lt (by omega), Nat.zero_add]
          rw [this]
          simp
    clear h hlen hs hr hsz hm hdm hqm hq
    rcases hcs with ⟨rfl, rfl⟩ | ⟨k0, k1, rfl⟩ | ⟨k0, k1, rfl⟩
    · clear hqi
      go_enter Try.func11, Try.ntmps11
      go_wp2_with (go_at_call 15; go_must (refine HS.out.mono ?_; rintro y w1 ⟨rfl, rfl⟩))
      go_ret2
      exact ⟨rfl, Below.refl _ _⟩
    · have k2 : 0 < (m : Int) % (s : Int) := by omega
      have k3 : ¬ (m : Int) = 0 := by omega
      go_enter Try.func11, Try.ntmps11
      go_wp2_with (go_at_call 15; go_must (refine HS.out.mono ?_; rintro y w1 ⟨rfl, rfl⟩))
      go_ret2
      exact ⟨rfl, Below.refl _ _⟩
    · have k2 : (m : Int) % (s : Int) = 0 := by omega
      have k3 : ¬ (m : Int) = 0 := by omega
      go_enter Try.func11, Try.ntmps11
      go_wp2_with (go_at_call 15; go_must (refine HS.out.mono ?_; rintro y w1 ⟨rfl, rfl⟩))
      go_ret2
      exact ⟨rfl, Below.refl _ _⟩

end Go.Proofs.Ytfdccdjfbdmblaa.pk
