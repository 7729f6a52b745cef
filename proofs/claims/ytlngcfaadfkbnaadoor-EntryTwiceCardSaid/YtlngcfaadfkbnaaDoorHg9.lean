/-
  The program's own log: ahead, join.
-/
import Derived.Test.YtlngcfaadfkbnaaDoorHg8
import Derived.ScopeJumps
import Derived.WalkMore
namespace Go.Proofs.YtlngcfaadfkbnaaDoor.pk
open Go Go.RowKit
set_option maxRecDepth 100000

set_option maxHeartbeats 8000000 in
theorem ahead_g (l : Lg) (A : Option Addr) (n c : Nat) (i : Int) (w : World) (h : Inp l A n c w) (hm : mayE l = true) (h1 : l.base < i) (h2 : i ≤ l.base + (n : Int)) :
    Calls Tryd.prog 47 #[.agg #[.int .i64 l.base, .int .i64 l.term, .slice A n c], .int .i64 i] w fun y w' => ∃ z, y = .returned (.int .i64 z) ∧ Below w.heap.size w w' := by
  obtain ⟨W1, g, hW1, hg, hb1, hq, hsz⟩ := one_box w (.cells #[.int .i64 l.base, .int .i64 l.term, .slice A n c] 29)
  have HW := Lib.hid (And.intro hW1 hg)
  have HE := Lib.hid (And.intro hb1 (And.intro hq hsz))
  have HI := Lib.hid (h.below hb1)
  have HCL := Lib.hid (show ∀ W, Below W1.heap.size W1 W → W.cell? ⟨g, 0, none⟩ = some (.int .i64 l.base) ∧ W.cell? ⟨g, 1, none⟩ = some (.int .i64 l.term) ∧ W.cell? ⟨g, 2, none⟩ = some (.slice A n c) from fun W hW => cells3 ((hW.block g (obj_lt hq)).trans hq))
  have hl := h.len
  have hp := mayE_parts hm
  obtain ⟨bk, off, hA⟩ : ∃ bk off, A = some ⟨bk, off, none⟩ := by
    obtain ⟨bk, off, _, _, hA, _⟩ := h.e.at_ 0 (by omega)
    exact ⟨bk, off, hA⟩
  subst hA
  have HEN := Lib.hid (show ∀ (j : Nat), j < n → ∀ W, Below W1.heap.size W1 W → ∃ x t : Int, inI x ∧ 1 ≤ x ∧ W.cell? ⟨bk, off + j * 4, none⟩ = some (.int .i64 x) ∧ W.cell? ⟨bk, off + j * 4 + 1, none⟩ = some (.int .i64 t) from fun j hj W hW => by
    have hx := HI.out.e.below hW
    obtain ⟨bk', off', Ad, cd, hA, hbb, hok, q0, q1, q2, q3, -⟩ := hx.at_ j (by omega)
    injection hA with hA
    injection hA with e1 e2
    subst e1; subst e2
    have hbh := behindE_at (mayE_iff.1 hm).2 j (by omega)
    exact ⟨_, _, hok.1, hbh.2.1, q0, q1⟩)
  obtain ⟨k, hk⟩ : ∃ k : Nat, i - l.base - 1 = (k : Int) := ⟨(i - l.base - 1).toNat, by omega⟩
  have hkn : k < n := by omega
  have CP := Lib.hid fun W => place_g l (.slice (some ⟨bk, off, none⟩) n c) i W hp.1 (by omega) (by omega) (by omega) _ hk.symm
  obtain ⟨tt, htt⟩ : ∃ tt, tt = tmE l i := ⟨_, rfl⟩
  have CT := Lib.hid fun W (hW : Below W1.heap.size W1 W) => termAt_g l (some ⟨bk, off, none⟩) n c i W (HI.out.e.below hW) hp.1 (by omega) (by omega) (by omega) (by omega) tt htt
  have HN := Lib.hid (show n ≤ 1000000 by omega)
  obtain ⟨x0, x1, x2⟩ := cells3 hq
  have s3 : (n : Int) ≤ (c : Int) := by omega
  clear h hW1 hg hb1 hq hsz hl hp hk htt hm h1 h2
  go_enter Tryd.func47, Tryd.ntmps47
  go_wp2
  refine wp_scope_jumps 0 (fun a' w' => Below W1.heap.size W1 w' ∧ ∃ (j : Nat) (u7 u8 u9 u10 u11 u12 u13 u14 u15 u16 u17 u18 u19 u20 u21 u22 u23 u24 u25 u26 u27 u28 u29 u30 u31 u32 u33 u34 : Value), a' = { tmps := #[.agg #[.int .i64 l.base, .int .i64 l.term, .slice (some ⟨bk, off, none⟩) n c], .int .i64 i, .pointer (some ⟨g, 0, none⟩), undef, .int .i64 0, .int .i64 tt, .int .i64 (j : Int), u7, u8, u9, u10, u11, u12, u13, u14, u15, u16, u17, u18, u19, u20, u21, u22, u23, u24, u25, u26, u27, u28, u29, u30, u31, u32, u33, u34], defers := [] } ∧ j < n) (fun a' _ => (intOf (a'.tmps.getD 6 undef)).toNat) rfl ?_ ?_
  · go_upto_region 1 with fail
    rw [← HW.out.1, ← HW.out.2]
    go_wp2_with (first
      | (go_at_call 32; go_must (refine (CT.out _ (Below.refl _ _)).mono ?_; rintro y w2 ⟨rfl, hb2⟩; obtain ⟨x0, x1, x2⟩ := HCL.out w2 hb2; have HB2 := Lib.hid hb2; clear hb2))
      | (go_at_call 35; go_must (refine (CP.out _).mono ?_; rintro y w3 ⟨rfl, hb3⟩; have HB3 := Lib.hid (HB2.out.trans (hb3.mono HB2.out.size)); clear hb3)))
    go_step3
    clear x0 x1 x2
    have hj := hkn
    clear hkn
    obtain ⟨j, rfl⟩ : ∃ j, j = k := ⟨_, rfl⟩
    obtain ⟨x0, x1, x2⟩ := HCL.out w3 HB3.out
    obtain ⟨ix, it, hix, hix1, y0, y1⟩ := HEN.out j hj w3 HB3.out
    have r1 : (j : Int) < (n : Int) := by omega
    have r0 : (n : Int) ≤ 1000000 := by have := HN.out; omega
    have r2 : ix ≤ 9223372036854775807 := hix.2
    by_cases hj0 : j = 0
    · subst hj0
      clear hix
      rw [Nat.zero_mul, Nat.add_zero] at y0
      go_wp2_with fail
      try simp only [Exit.jump]
      go_ret
      exact ⟨_, rfl, HE.out.1.trans (HB3.out.mono HE.out.1.size)⟩
    · obtain ⟨j', rfl⟩ : ∃ j', j = j' + 1 := ⟨j - 1, by omega⟩
      obtain ⟨ix', it', -, -, y0', y1'⟩ := HEN.out j' (by omega) w3 HB3.out
      have r3 : (j' : Int) < (n : Int) := by omega
      have r4 : 0 < (((j' + 1 : Nat) : Int)) := by omega
      have r5 : ((j' + 1 : Nat) : Int) - 1 = (j' : Int) := by omega
      clear hix
      by_cases hit : it' = tt
      · go_wp2_with fail
        go_step3
        exact ⟨rfl, HB3.out, j', _, _, _, _, _, _, _, _, _, _, _, _, _, _, _, _, _, _, _, _, _, _, _, _, _, _, _, _, rfl, by omega⟩
      · go_wp2_with fail
        try simp only [Exit.jump]
        go_ret
        exact ⟨_, rfl, HE.out.1.trans (HB3.out.mono HE.out.1.size)⟩
  · rintro a' w3 ⟨hb3, j, u7, u8, u9, u10, u11, u12, u13, u14, u15, u16, u17, u18, u19, u20, u21, u22, u23, u24, u25, u26, u27, u28, u29, u30, u31, u32, u33, u34, rfl, hj⟩
    have HB3 := Lib.hid hb3
    clear hb3 x0 x1 x2 hkn
    obtain ⟨x0, x1, x2⟩ := HCL.out w3 HB3.out
    obtain ⟨ix, it, hix, hix1, y0, y1⟩ := HEN.out j hj w3 HB3.out
    have r1 : (j : Int) < (n : Int) := by omega
    have r0 : (n : Int) ≤ 1000000 := by have := HN.out; omega
    have r2 : ix ≤ 9223372036854775807 := hix.2
    by_cases hj0 : j = 0
    · subst hj0
      clear hix
      rw [Nat.zero_mul, Nat.add_zero] at y0
      go_wp2_with fail
      try simp only [Exit.jump]
      go_ret
      exact ⟨_, rfl, HE.out.1.trans (HB3.out.mono HE.out.1.size)⟩
    · obtain ⟨j', rfl⟩ : ∃ j', j = j' + 1 := ⟨j - 1, by omega⟩
      obtain ⟨ix', it', -, -, y0', y1'⟩ := HEN.out j' (by omega) w3 HB3.out
      have r3 : (j' : Int) < (n : Int) := by omega
      have r4 : 0 < (((j' + 1 : Nat) : Int)) := by omega
      have r5 : ((j' + 1 : Nat) : Int) - 1 = (j' : Int) := by omega
      clear hix
      by_cases hit : it' = tt
      · go_wp2_with fail
        go_step3
        refine ⟨rfl, ?_, ?_⟩
        · exact ⟨HB3.out, j', _, _, _, _, _, _, _, _, _, _, _, _, _, _, _, _, _, _, _, _, _, _, _, _, _, _, _, _, rfl, by omega⟩
        · simp [intOf]
      · go_wp2_with fail
        try simp only [Exit.jump]
        go_ret
        exact ⟨_, rfl, HE.out.1.trans (HB3.out.mono HE.out.1.size)⟩

end Go.Proofs.YtlngcfaadfkbnaaDoor.pk
