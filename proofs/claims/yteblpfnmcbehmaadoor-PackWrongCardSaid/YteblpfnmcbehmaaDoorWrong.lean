/-
  The law PackWrong's own walk: a thing that is laid is taken off as nothing else.
-/
import Derived.Test.YteblpfnmcbehmaaDoorLay
import Derived.Test.YteblpfnmcbehmaaDoorPure
import Derived.Deep.RegionHeld3
import Derived.Lib.QuietBelow
import Derived.BigQuiet
import Derived.Deep.DeepCutAuto
import Derived.Deep.CutBlock
namespace Go.Proofs.YteblpfnmcbehmaaDoor.pk
open Go Go.RowKit
set_option maxRecDepth 100000

theorem Std.drew {w : World} (h : Std w) : Std w.drew := ⟨h.tab, h.syn, h.rng, h.typ, h.size⟩
theorem Std.drewN {w : World} (h : Std w) (n : Nat) : Std (w.drewN n) := ⟨h.tab, h.syn, h.rng, h.typ, h.size⟩
theorem undrew {w w' : World} (h : Below w.drew.heap.size w.drew w') : Below w.heap.size w w' := ⟨h.os, h.tape, h.output, h.size, h.block⟩

set_option maxHeartbeats 1000000 in
theorem wrong_first (kd n ask : Int) (A : Option Addr) (len c : Nat) (t : List UInt8) (w : World) (hs : Std w) (hn0 : -9223372036854775808 ≤ n) (hn1 : n ≤ 9223372036854775807)
    (ht : Sl w w.heap.size (.slice A len c) t) (hl : t.length ≤ 140737488351232) :
    Calls Tryd.prog 7 #[.agg #[.int .i64 kd, .int .i64 n, .slice A len c], .int .i64 ask] w fun x w' => x = .returned (.bool true) ∧ Below w.heap.size w w' := by
  have hG := hs.size
  obtain ⟨W0, hW0⟩ : ∃ W0, W0 = w.alloc (.cells #[.int .i64 kd, .int .i64 n, .slice A len c] 52) := ⟨_, rfl⟩
  have hb0 : Below w.heap.size w W0 := by rw [hW0]; exact (Below.refl _ _).alloc (Nat.le_refl _) _
  have hX : w.heap.size < W0.heap.size := by rw [hW0]; simp
  have q0 : W0.cell? ⟨w.heap.size, 0, none⟩ = some (.int .i64 kd) := by rw [hW0]; simp
  have q1 : W0.cell? ⟨w.heap.size, 1, none⟩ = some (.int .i64 n) := by rw [hW0]; simp
  have q2 : W0.cell? ⟨w.heap.size, 2, none⟩ = some (.slice A len c) := by rw [hW0]; simp
  have HB0 := Lib.hid hb0
  have HS0 := Lib.hid (hs.below hG hb0)
  have HT0 := Lib.hid (ht.below hb0)
  go_enter Tryd.func7, Tryd.ntmps7
  go_wp2_with fail
  rw [← hW0]
  have HW0 := Lib.hid hW0
  clear hW0 hb0 ht
  go_region_held3 (fun W => W.cell? ⟨w.heap.size, 0, none⟩ = some (.int .i64 kd) ∧ W.cell? ⟨w.heap.size, 1, none⟩ = some (.int .i64 n) ∧ W.cell? ⟨w.heap.size, 2, none⟩ = some (.slice A len c))
    (first | (refine ⟨?_, ?_, ?_⟩ <;> assumption) | go_keep)
    (first
      | (go_at_call 8; refine (New_any _).mono ?_; rintro x w2 ⟨rfl, h2, hb2'⟩; have hb2 := undrew hb2'; have H2 := Lib.hid (show WR w2 W0.heap.size W0.heap.size _ [] from h2); have HB2 := Lib.hid hb2; have q20 := (hb2.cell (p := ⟨w.heap.size, 0, none⟩) hX).trans q0; have q21 := (hb2.cell (p := ⟨w.heap.size, 1, none⟩) hX).trans q1; have q22 := (hb2.cell (p := ⟨w.heap.size, 2, none⟩) hX).trans q2; clear h2 hb2 hb2')
      | (go_at_call 24; go_must (refine (lay_any W0.heap.size W0.heap.size _ [] kd n A len c t w.heap.size (Nat.le_of_lt hX) _ (HS0.out.below (Nat.le_trans hG HB0.out.size) HB2.out) (Nat.le_trans hG HB0.out.size) H2.out hn0 hn1 (HT0.out.below (HB2.out.mono (Nat.le_of_lt hX))) (by simp; omega)).mono ?_; rintro x w3 ⟨v3, rfl, h3, k3⟩; have H3 := Lib.hid h3; have K3 := Lib.hid k3; have q30 := (k3.below.cell (p := ⟨w.heap.size, 0, none⟩) hX).trans q20; have q31 := (k3.below.cell (p := ⟨w.heap.size, 1, none⟩) hX).trans q21; have q32 := (k3.below.cell (p := ⟨w.heap.size, 2, none⟩) hX).trans q22; clear h3 k3))
      | (go_at_call 18; refine (Writer_Done _ _ _ _ _ H3.out (by simp; have := layB_len kd n t hn0 hn1 (by omega); omega)).mono ?_; rintro x w4 ⟨u, rfl, hown, hb4⟩; have HO := Lib.hid hown; have HB4 := Lib.hid hb4; have hX3 := Nat.lt_of_lt_of_le hX (Nat.le_trans HB2.out.size K3.out.below.size); have q40 := (hb4.cell (p := ⟨w.heap.size, 0, none⟩) hX3).trans q30; have q41 := (hb4.cell (p := ⟨w.heap.size, 1, none⟩) hX3).trans q31; have q42 := (hb4.cell (p := ⟨w.heap.size, 2, none⟩) hX3).trans q32; clear hown hb4))
  have hG0 := Nat.le_trans hG HB0.out.size
  have hB34 : Below W0.heap.size W0 w4 := (HB2.out.trans K3.out.below).trans (HB4.out.mono (Nat.le_trans HB2.out.size K3.out.below.size))
  have HBw := Lib.hid (HB0.out.trans (hB34.mono HB0.out.size))
  have HSw := Lib.hid (hs.below hG HBw.out)
  have hX4 : w.heap.size < w4.heap.size := Nat.lt_of_lt_of_le hX hB34.size
  have hLl := layB_len kd n t hn0 hn1 (by omega)
  have hS : Sl w4 w4.heap.size u (layB kd n t) := Sl.of_own (e := 5) (by simpa using HO.out) _ fun g hg => (HO.out.lt g hg).2
  obtain ⟨A1, c1, rfl, hx⟩ := hS
  have HSL := Lib.hid (show Sl w4 w4.heap.size (.slice A1 (layB kd n t).length c1) (layB kd n t) from ⟨A1, c1, rfl, hx⟩)
  generalize hL : layB kd n t = L at *
  have HL := Lib.hid hL
  have hwr : IntKind.u64.wrap ask = ask % 18446744073709551616 := IntKind.wrap_u64 ask
  have hf : (five ask : Int) = ask % 18446744073709551616 % 5 := by unfold five; omega
  have ha0 : 0 ≤ ask % 18446744073709551616 := by omega
  have ha1 : ask % 18446744073709551616 < 18446744073709551616 := by omega
  generalize hgen : ask % 18446744073709551616 = a at hwr hf ha0 ha1
  have hq5 : 0 ≤ a % 5 ∧ a % 5 < 5 := by omega
  obtain ⟨q, hq⟩ : ∃ q, a % 5 = q := ⟨_, rfl⟩
  rw [hq] at hf hq5
  have hlen := HT0.out.len
  have HF := Lib.hid hf
  have HLEN := Lib.hid hlen
  clear hgen hL hx hB34 q0 q1 q2 q20 q21 q22 q30 q31 q32 hf hlen HW0 hs
  go_upto_block 0 with (go_at_call 13; go_must (refine (Read_any A1 L.length c1 L _ _ HSL.out (by omega)).mono ?_; rintro x w5 ⟨p, v5, rfl, hp5, h5, hb5⟩; have H5 := Lib.hid h5; have HB5 := Lib.hid hb5; have q50 := (hb5.cell (p := ⟨w.heap.size, 0, none⟩) hX4).trans q40; have q52 := (hb5.cell (p := ⟨w.heap.size, 2, none⟩) hX4).trans q42; clear h5 hb5))
  clear hq hwr ha0 ha1
  have hBw5 : Below w.heap.size w w5 := HBw.out.trans (HB5.out.mono HBw.out.size)
  have HBw5 := Lib.hid hBw5
  have HSw5 := Lib.hid (HSw.out.below (Nat.le_trans hG HBw.out.size) HB5.out)
  have hXp : w.heap.size < p := Nat.lt_of_lt_of_le hX4 hp5
  have hX5 : w.heap.size < w5.heap.size := Nat.lt_of_lt_of_le hX4 HB5.out.size
  have hpw : w.heap.size ≤ p := Nat.le_of_lt hXp
  clear hBw5 q40 q41 q42
  go_cut [] (fun W => (∃ v', RD W p v' (asR (five ask) t.length (L, 0)).1 (asR (five ask) t.length (L, 0)).2) ∧ w5.grownBy W (some p))
  case first =>
    have hq : q = 0 ∨ q = 1 ∨ q = 2 ∨ q = 3 ∨ q = 4 := by omega
    obtain ⟨hl1, hl2, hl3⟩ := HLEN.out
    subst hl1
    have hs1 := HF.out
    rcases hq with rfl | rfl | rfl | rfl | rfl
    · have hk : five ask = 0 := by omega
      have HR : Hid (asR (five ask) t.length (L, 0) = (rUint 18446744073709551615 (L, 0)).1) := by unfold asR; rw [if_pos hk]; exact rfl
      clear hk hs1
      go_wp2_with (go_at_call 14; go_must (refine (Uint_any p 18446744073709551615 (L, 0) _ _ HSw5.out H5.out).mono ?_; rintro x w6 ⟨v6, rfl, h6, hg6⟩; have H6 := Lib.hid h6; have HG6 := Lib.hid hg6; clear h6 hg6))
      go_meet
      exact ⟨⟨v6, by rw [HR.out]; exact H6.out⟩, HG6.out⟩
    · have hk : five ask = 1 := by omega
      have HR : Hid (asR (five ask) t.length (L, 0) = (rInt (L, 0)).1) := by unfold asR; rw [if_neg (by omega)]; rw [if_pos hk]; exact rfl
      clear hk hs1
      go_wp2_with (go_at_call 15; go_must (refine (Int_any p (L, 0) _ _ HSw5.out H5.out).mono ?_; rintro x w6 ⟨v6, rfl, h6, hg6⟩; have H6 := Lib.hid h6; have HG6 := Lib.hid hg6; clear h6 hg6))
      go_meet
      exact ⟨⟨v6, by rw [HR.out]; exact H6.out⟩, HG6.out⟩
    · have hk : five ask = 2 := by omega
      have HR : Hid (asR (five ask) t.length (L, 0) = (rBool (L, 0)).1) := by unfold asR; rw [if_neg (by omega)]; rw [if_neg (by omega)]; rw [if_pos hk]; exact rfl
      clear hk hs1
      go_wp2_with (go_at_call 26; go_must (refine (Bool_any p (L, 0) _ _ H5.out).mono ?_; rintro x w6 ⟨v6, rfl, h6, hg6⟩; have H6 := Lib.hid h6; have HG6 := Lib.hid hg6; clear h6 hg6))
      go_meet
      exact ⟨⟨v6, by rw [HR.out]; exact H6.out⟩, HG6.out⟩
    · have hk : five ask = 3 := by omega
      have HR : Hid (asR (five ask) t.length (L, 0) = (rBytes 116 t.length (L, 0)).1) := by unfold asR; rw [if_neg (by omega)]; rw [if_neg (by omega)]; rw [if_neg (by omega)]; rw [if_pos hk]; exact rfl
      clear hk hs1
      go_wp2_with (go_at_call 27; go_must (refine (Text_any p (t.length : Int) (L, 0) _ _ HSw5.out (by omega) H5.out).mono ?_; rintro x w6 ⟨v6, rfl, h6, hg6⟩; have H6 := Lib.hid h6; have HG6 := Lib.hid hg6; clear h6 hg6))
      go_meet
      exact ⟨⟨v6, by rw [HR.out]; exact H6.out⟩, HG6.out⟩
    · have hk : five ask = 4 := by omega
      have HR : Hid (asR (five ask) t.length (L, 0) = (rBytes 98 t.length (L, 0)).1) := by unfold asR; rw [if_neg (by omega)]; rw [if_neg (by omega)]; rw [if_neg (by omega)]; rw [if_neg (by omega)]; exact rfl
      clear hk hs1
      go_wp2_with (go_at_call 28; go_must (refine (Bytes_any p (t.length : Int) (L, 0) _ _ HSw5.out (by omega) H5.out (by show L.length ≤ _; omega)).mono ?_; rintro x w6 ⟨v6, u6, rfl, hu6, h6, hg6⟩; have H6 := Lib.hid h6; have HG6 := Lib.hid hg6; clear h6 hg6 hu6))
      go_meet
      exact ⟨⟨v6, by rw [HR.out]; exact H6.out⟩, HG6.out⟩
  case rest =>
    obtain ⟨⟨v6, h6⟩, hg6⟩ := hcut
    have q60 : wc.cell? ⟨w.heap.size, 0, none⟩ = some (.int .i64 kd) := (World.cell?_of_block (a := ⟨w.heap.size, 0, none⟩) (hg6.block w.heap.size hX5 (fun e => by injection e with e; omega))).trans q50
    have hbw6 : Below w.heap.size w wc := HBw5.out.grown hg6 (Nat.le_of_lt hX5) (fun k hk => by injection hk with hk; omega)
    have HBw6 := Lib.hid hbw6
    have HSw6 := Lib.hid (HSw5.out.below hG (Below.grown (Below.refl w.heap.size w5) hg6 (Nat.le_of_lt hX5) (fun k hk => by injection hk with hk; omega)))
    have H6 := Lib.hid h6
    have hX6 : w.heap.size < wc.heap.size := Nat.lt_of_lt_of_le hX5 hg6.size
    clear h6 hg6 hbw6 q50 q52
    have hwk : IntKind.u64.wrap kd = kd % 18446744073709551616 := IntKind.wrap_u64 kd
    have hfk : (five kd : Int) = kd % 18446744073709551616 % 5 := by unfold five; omega
    have hb0 : 0 ≤ kd % 18446744073709551616 := by omega
    have hb1 : kd % 18446744073709551616 < 18446744073709551616 := by omega
    generalize hgen : kd % 18446744073709551616 = b at hwk hfk hb0 hb1
    have hm5 : 0 ≤ b % 5 ∧ b % 5 < 5 := by omega
    obtain ⟨m, hm⟩ : ∃ m, b % 5 = m := ⟨_, rfl⟩
    rw [hm] at hfk hm5
    have hmt : b.tmod 5 = m := by rw [Int.tmod_eq_emod_of_nonneg hb0]; exact hm
    have hmu : IntKind.u64.wrap m = m := by rw [IntKind.wrap_u64]; omega
    have hmi : IntKind.i64.wrap m = m := IntWalk.i64_in _ (by omega)
    clear hgen
    by_cases hqm : five ask = five kd
    · have hst : asR (five ask) t.length (L, 0) = ([], 0) := by
        have := asR_right kd n t [] hn0 hn1 (by omega)
        rw [List.append_nil, HL.out] at this
        rw [hqm]; exact this
      rw [hst] at H6
      obtain rfl : m = q := by have := HF.out; omega
      clear hfk hqm hst
      have k60 := cell_regrown q60
      have cS : ∀ d os, Calls Tryd.prog 23 #[] (Sort.grow (redrawn wc d) os) fun e w'' => e = .returned (.bool true) ∧ ∃ p : Regrown, w'' = Sort.grow (redrawn wc p.d) p.os :=
        fun d os => Calls.regrown_of (sure_any _ (HSw6.out.below (Nat.le_of_lt (Nat.lt_of_le_of_lt hG hX6)) (below_regrown wc d os)))
      clear q60
      go_wp2_with (go_at_call 20; go_must (refine (Done_none p v6 _ H6.out).mono ?_; rintro x w7 ⟨rfl, rfl⟩))
      refine wp_region_quiet_below (by kernel_rfl) (by kernel_rfl) ?_
      repeat (go_big_quiet_step (exact cS _ _))
      refine wpQuiet_nil ?_
      intro _ hw'
      obtain ⟨⟨dq, osq⟩, hw''⟩ := hw'
      subst hw''
      go_wp2
      go_ret
      exact ⟨rfl, HBw6.out.trans ((below_regrown wc dq osq).mono (Nat.le_of_lt hX6))⟩
    · have hst : asR (five ask) t.length (L, 0) = (L, 3) := by
        have := asR_wrong (five ask) (five_lt ask) kd n t [] t.length (by omega) hqm
        rw [List.append_nil, HL.out] at this
        exact this
      rw [hst] at H6
      have hne : (q == m) = false := by rw [beq_eq_false_iff_ne]; intro e; have := HF.out; omega
      clear hfk hqm hst
      have k60 := cell_regrown q60
      have hlow : 6 ≤ wc.heap.size := Nat.le_of_lt (Nat.lt_of_le_of_lt hG hX6)
      have cS : ∀ d os, Calls Tryd.prog 23 #[] (Sort.grow (redrawn wc d) os) fun e w'' => e = .returned (.bool true) ∧ ∃ p : Regrown, w'' = Sort.grow (redrawn wc p.d) p.os :=
        fun d os => Calls.regrown_of (sure_any _ (HSw6.out.below hlow (below_regrown wc d os)))
      have cN : ∀ d os, Calls Tryd.prog 19 #[.iface 79 (.int .i64 3)] (Sort.grow (redrawn wc d) os) fun e w'' => e = .returned (.int .i64 3) ∧ ∃ p : Regrown, w'' = Sort.grow (redrawn wc p.d) p.os :=
        fun d os => Calls.regrown_of (num_some 3 _ (HSw6.out.below hlow (below_regrown wc d os)))
      have cL : ∀ d os, Calls Tryd.prog 22 #[.pointer (some ⟨p, 0, none⟩)] (Sort.grow (redrawn wc d) os) fun e w'' => e = .returned (.int .i64 (L.length : Int)) ∧ ∃ p : Regrown, w'' = Sort.grow (redrawn wc p.d) p.os :=
        fun d os => Calls.regrown_of ((Left_any p 3 v6 L _ (H6.out.below (below_regrown wc d os) H6.out.lt)).mono (fun _ _ ⟨he, hw⟩ => ⟨he, by subst hw; exact Below.refl _ _⟩))
      clear q60 hlow
      go_wp2_with (go_at_call 20; go_must (refine (Done_err p 3 v6 L _ H6.out (by decide)).mono ?_; rintro x w7 ⟨rfl, rfl⟩))
      refine wp_region_quiet_below (by kernel_rfl) (by kernel_rfl) ?_
      repeat (go_big_quiet_step (first | exact cS _ _ | exact cN _ _ | exact cL _ _))
      refine wpQuiet_nil ?_
      intro _ hw'
      obtain ⟨⟨dq, osq⟩, hw''⟩ := hw'
      subst hw''
      go_wp2
      go_ret
      exact ⟨rfl, HBw6.out.trans ((below_regrown wc dq osq).mono (Nat.le_of_lt hX6))⟩

end Go.Proofs.YteblpfnmcbehmaaDoor.pk
