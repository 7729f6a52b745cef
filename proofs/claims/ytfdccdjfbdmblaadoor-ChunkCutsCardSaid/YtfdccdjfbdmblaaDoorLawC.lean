/-
  The document's own Cut and Pieces, and the law ChunkCuts: walked.
-/
import Derived.Test.YtfdccdjfbdmblaaDoorConK
import Derived.Test.YtfdccdjfbdmblaaDoorNum
namespace Go.Proofs.YtfdccdjfbdmblaaDoor.pk
open Go Go.RowKit
set_option maxRecDepth 100000

theorem Bys.cut_ {w : World} {A : Option Addr} {c n : Nat} {bs : List UInt8} (h : Bys w (.slice A n c) bs) {k : Nat} (hk : k ≤ bs.length) : Bys w (.slice (if c = k then A else A.map (·.add k)) (n - k) (c - k)) (bs.drop k) := SlT.cut h hk
theorem Bys.front_ {w : World} {A : Option Addr} {c n : Nat} {bs : List UInt8} (h : Bys w (.slice A n c) bs) {k : Nat} (hk : k ≤ bs.length) : Bys w (.slice A k c) (bs.take k) := SlT.front h hk

set_option maxHeartbeats 4000000 in
theorem CutR_any (A : Option Addr) (m c : Nat) (t : List UInt8) (off size : Int) (w : World) (h : Bys w (.slice A m c) t) (hm : m ≤ 100000) (r : List UInt8 × Bool × Nat) (hr : r = cutK t off size) :
    Calls Tryd.prog 6 #[.slice A m c, .int .i64 off, .int .i64 size] w fun y w' => ∃ A1 c1, y = .returned (.tuple #[.slice A1 r.1.length c1, .bool r.2.1, .int .i64 (r.2.2 : Int)]) ∧ Bys w' (.slice A1 r.1.length c1) r.1 ∧ Below w.heap.size w w' := by
  obtain ⟨hml, hmc, hcm, hat⟩ := h.at_
  have im : (m : Int) ≤ 100000 := by omega
  have imc : (m : Int) ≤ (c : Int) := by omega
  have HH := Lib.hid (And.intro h (And.intro hml (And.intro hmc hcm)))
  by_cases h1 : size < 1 ∨ 1048576 < size
  · obtain rfl : r = ([], false, 1) := by rw [hr]; unfold cutK; rw [if_pos h1]
    have hg : size < 1 ∨ (¬ size < 1 ∧ 1048576 < size) := by omega
    clear hr h1 h hml hmc hcm hat
    rcases hg with hg | ⟨hg1, hg2⟩
    all_goals
      go_enter Tryd.func6, Tryd.ntmps6
      go_wp2_with fail
      go_ret3
      exact ⟨none, 0, rfl, Bys.nil_ _, Below.refl _ _⟩
  · have g1 : ¬ size < 1 := by omega
    have g2 : ¬ 1048576 < size := by omega
    by_cases h2 : off < 0 ∨ (t.length : Int) < off ∨ (off = t.length ∧ 0 < t.length)
    · obtain rfl : r = ([], false, 4) := by rw [hr]; unfold cutK; rw [if_neg h1, if_pos h2]
      rw [← hml] at h2
      have hg : off < 0 ∨ (¬ off < 0 ∧ (m : Int) < off) ∨ (¬ off < 0 ∧ ¬ (m : Int) < off ∧ off = (m : Int) ∧ 0 < m) := by omega
      clear hr h1 h2 h hml hmc hcm hat
      rcases hg with hg | ⟨hg1, hg2⟩ | ⟨hg1, hg2, rfl, hg4⟩
      all_goals
        go_enter Tryd.func6, Tryd.ntmps6
        go_wp2_with fail
        go_ret3
        exact ⟨none, 0, rfl, Bys.nil_ _, Below.refl _ _⟩
    · rw [← hml] at h2
      have hoff : ∃ o : Nat, off = (o : Int) := ⟨off.toNat, by omega⟩
      obtain ⟨o, rfl⟩ := hoff
      have ho : o ≤ m := by omega
      have j1 : ¬ (o : Int) < 0 := by omega
      have j2 : ¬ (m : Int) < (o : Int) := by omega
      have hor : (¬ (o : Int) = (m : Int) ∧ ¬ o = m) ∨ (o = 0 ∧ m = 0) := by omega
      by_cases h3 : (m : Int) - o ≤ size
      · obtain ⟨d, hd⟩ : ∃ d, d = t.drop o := ⟨_, rfl⟩
        obtain ⟨nd, hnd⟩ : ∃ n, n = d.length := ⟨_, rfl⟩
        obtain rfl : r = (d, true, 0) := by rw [hr]; unfold cutK; rw [if_neg h1, if_neg (by rw [← hml]; exact h2), if_pos (by rw [← hml]; exact h3), hd]; simp
        have hdl : nd = m - o := by rw [hnd, hd, List.length_drop, hml]
        have HC := Lib.hid (And.intro (show Bys w (.slice (if c = o then A else A.map (·.add o)) (m - o) (c - o)) d by rw [hd]; exact h.cut_ (k := o) (by omega)) (And.intro hnd hdl))
        clear hr h1 h2 h hml hmc hcm hat hdl hd hnd
        rcases hor with ⟨j3, j4⟩ | ⟨rfl, rfl⟩
        · go_enter Tryd.func6, Tryd.ntmps6
          go_wp2_with fail
          go_ret3
          have hb := HC.out.1
          rw [if_neg (by have := HH.out.2.2.1; omega)] at hb
          refine ⟨_, _, by rw [← HC.out.2.1, HC.out.2.2]; rfl, ?_, Below.refl _ _⟩
          rw [← HC.out.2.1, HC.out.2.2]
          exact hb
        · go_enter Tryd.func6, Tryd.ntmps6
          go_wp2_with fail
          go_ret3
          have hb := HC.out.1
          have hn0 : (if c = 0 then A else A.map (·.add 0)) = A := by
            by_cases h0 : c = 0
            · rw [if_pos h0]
            · rw [if_neg h0]
              cases A with
              | none => rfl
              | some a => simp [Addr.add]
          rw [hn0] at hb
          refine ⟨A, c, by rw [← HC.out.2.1, HC.out.2.2]; rfl, ?_, Below.refl _ _⟩
          rw [← HC.out.2.1, HC.out.2.2]
          exact hb
      · obtain ⟨s, rfl⟩ : ∃ s : Nat, size = (s : Int) := ⟨size.toNat, by omega⟩
        obtain ⟨d, hd⟩ : ∃ d, d = (t.drop o).take s := ⟨_, rfl⟩
        obtain ⟨nd, hnd⟩ : ∃ n, n = d.length := ⟨_, rfl⟩
        obtain rfl : r = (d, false, 0) := by rw [hr]; unfold cutK; rw [if_neg h1, if_neg (by rw [← hml]; exact h2), if_neg (by rw [← hml]; exact h3), hd]; simp
        have hdl : nd = s := by rw [hnd, hd, List.length_take, List.length_drop, ← hml]; omega
        have j5 : ¬ (o : Int) = (m : Int) := by omega
        have j6 : ¬ o = m := by omega
        have j7 : (o : Int) + (s : Int) ≤ (m : Int) := by omega
        have HC := Lib.hid (And.intro (show Bys w (.slice (if c = o then A else A.map (·.add o)) s (c - o)) d by rw [hd]; exact (h.cut_ (k := o) (by omega)).front_ (by rw [List.length_drop]; omega)) (And.intro hnd hdl))
        clear hr h1 h2 h hml hmc hcm hat hdl hd hnd hor
        go_enter Tryd.func6, Tryd.ntmps6
        go_wp2_with fail
        go_ret3
        have hb := HC.out.1
        rw [if_neg (by have := HH.out.2.2.1; omega)] at hb
        refine ⟨_, _, by rw [← HC.out.2.1, HC.out.2.2]; rfl, ?_, Below.refl _ _⟩
        rw [← HC.out.2.1, HC.out.2.2]
        exact hb

/-- How many pieces there are, as the loop counts them. -/
theorem pcs_stop {t : List UInt8} {k n : Nat} (h1 : 1 ≤ k) (hn : 1 ≤ n) (ha : t.length ≤ n * k) (hb : n = 1 ∨ (n - 1) * k < t.length) : (if t.length = 0 then 1 else (t.length + k - 1) / k) = n := by
  by_cases h0 : t.length = 0
  · rw [if_pos h0]
    rcases hb with hb | hb
    · exact hb.symm
    · omega
  · rw [if_neg h0]
    have h2 : t.length + k - 1 < (n + 1) * k := by rw [Nat.add_mul]; omega
    have h3 : n * k ≤ t.length + k - 1 := by
      rcases hb with rfl | hb
      · omega
      · have e : n * k = (n - 1) * k + k := by rw [← Nat.succ_mul]; congr 1; omega
        omega
    have h4 := (Nat.div_lt_iff_lt_mul (x := t.length + k - 1) (y := n + 1) (by omega : 0 < k)).2 h2
    have h5 := (Nat.le_div_iff_mul_le (x := n) (y := t.length + k - 1) (by omega : 0 < k)).2 h3
    omega

set_option maxHeartbeats 4000000 in
theorem PiecesR_any (A : Option Addr) (m c : Nat) (t : List UInt8) (size : Int) (w : World) (h : Bys w (.slice A m c) t) (hm : m ≤ 100000) (r : Int × Nat) (hr : r = pcsK t size) :
    Calls Tryd.prog 8 #[.slice A m c, .int .i64 size] w fun y w' => y = .returned (.tuple #[.int .i64 r.1, .int .i64 (r.2 : Int)]) ∧ Below w.heap.size w w' := by
  have hml := h.len_
  have im : (m : Int) ≤ 100000 := by omega
  by_cases h1 : size < 1 ∨ 1048576 < size
  · obtain rfl : r = (0, 1) := by rw [hr]; unfold pcsK; rw [if_pos h1]
    have hg : size < 1 ∨ (¬ size < 1 ∧ 1048576 < size) := by omega
    clear hr h1 h hml
    rcases hg with hg | ⟨hg1, hg2⟩
    all_goals
      go_enter Tryd.func8, Tryd.ntmps8
      go_wp2_with fail
      go_ret2
      exact ⟨rfl, Below.refl _ _⟩
  · have g1 : ¬ size < 1 := by omega
    have g2 : ¬ 1048576 < size := by omega
    obtain ⟨k, rfl⟩ : ∃ k : Nat, size = (k : Int) := ⟨size.toNat, by omega⟩
    have HR := Lib.hid (show r = (((if t.length = 0 then 1 else (t.length + k - 1) / k : Nat) : Int), 0) by rw [hr]; unfold pcsK; rw [if_neg h1]; by_cases h0 : t.length = 0 <;> simp [h0])
    have HK := Lib.hid (show 1 ≤ k by omega)
    have HM := Lib.hid hml
    clear hr h1 h hml
    go_enter Tryd.func8, Tryd.ntmps8
    go_wp2_with fail
    go_loopw [6, 7] (fun nn aa wr => ∃ (n a : Nat), nn = .int .i64 (n : Int) ∧ aa = .int .i64 (a : Int) ∧ a = n * k ∧ (n = 0 ∨ n = 1 ∨ (n - 1) * k < m) ∧ w = wr) (fun nn _ _ => m + 1 - (intOf nn).toNat)
    case atStart => exact ⟨0, 0, rfl, rfl, by omega, Or.inl rfl, rfl⟩
    case round =>
      obtain ⟨n, a, rfl, rfl, ha, hn, rfl⟩ := hrel
      have hk := HK.out
      have hnm : n ≤ m + 1 := by
        rcases hn with h | h | h
        · omega
        · omega
        · have : n - 1 ≤ (n - 1) * k := Nat.le_mul_of_pos_right _ (by omega)
          omega
      have hanm : a ≤ m + k := by
        rw [ha]
        rcases hn with rfl | rfl | h
        · omega
        · omega
        · have e : n * k ≤ (n - 1) * k + k := by rw [← Nat.succ_mul]; exact Nat.mul_le_mul_right k (by omega)
          omega
      have in1 : (n : Int) ≤ 100001 := by omega
      have ia1 : (a : Int) ≤ 100000 + (k : Int) := by omega
      have HN := Lib.hid (And.intro ha (And.intro hn hk))
      clear ha hn hk hanm
      by_cases hgo : a < m ∨ n = 0
      · have hg : ((a : Int) < (m : Int)) ∨ (¬ (a : Int) < (m : Int) ∧ n = 0) := by omega
        have hnx : n + 1 = 0 ∨ n + 1 = 1 ∨ (n + 1 - 1) * k < m := by
          rcases hgo with h | h
          · exact Or.inr (Or.inr (by rw [Nat.add_sub_cancel, ← HN.out.1]; exact h))
          · exact Or.inr (Or.inl (by omega))
        have HX := Lib.hid hnx
        have HGO := Lib.hid hgo
        have hlt : n < m + 1 := by
          rcases hgo with h | h
          · have := HN.out.1
            have : n ≤ n * k := Nat.le_mul_of_pos_right _ (by have := HN.out.2.2; omega)
            omega
          · omega
        clear hgo hnx
        rcases hg with hg | ⟨hg1, rfl⟩
        all_goals
          go_wp2_with fail
          go_roundw
          case rel => exact ⟨_ + 1, a + k, by go_num, by go_num, by rw [HN.out.1, Nat.add_mul, Nat.one_mul], HX.out, by first | rfl | trivial⟩
          case measure => first | (simp [intOf]; done) | (simp [intOf]; omega)
      · have j1 : ¬ (a : Int) < (m : Int) := by omega
        have j2 : ¬ (n : Int) = 0 := by omega
        have j3 : ¬ n = 0 := by omega
        have hst := pcs_stop (t := t) (k := k) (n := n) HN.out.2.2 (by omega) (by rw [← HM.out, ← HN.out.1]; omega) (by
          rcases HN.out.2.1 with h | h | h
          · exact absurd h j3
          · exact Or.inl h
          · exact Or.inr (by rw [← HM.out]; exact h))
        have hre := HR.out
        rw [hst] at hre
        subst hre
        clear hst hgo
        go_wp2_with fail
        go_ret2
        exact ⟨rfl, Below.refl _ _⟩

set_option maxHeartbeats 8000000 in
theorem cuts_true (C : ConK) (A : Option Addr) (m c : Nat) (t : List UInt8) (off size : Int) (w : World) (hs : Std w) (h : Bys w (.slice A m c) t) (ho : inI off) (hz : inI size) :
    Calls Tryd.prog 3 #[.slice A m c, .int .i64 off, .int .i64 size] w fun y w' => y = .returned (.bool true) ∧ Below w.heap.size w w' := by
  have HH := Lib.hid h
  have HS := Lib.hid hs
  have HB := Lib.hid (Below.refl w.heap.size w)
  clear hs
  by_cases hbig : 100000 < m
  · have hg : 100000 < (m : Int) := by omega
    clear hbig h
    go_enter Tryd.func3, Tryd.ntmps3
    go_wp2_with (go_at_call 4; go_must (refine (sureK C _).mono ?_; rintro y w1 ⟨rfl, hb1⟩; have HB := Lib.hid (HB.out.trans (hb1.mono HB.out.size)); clear hb1))
    go_ret
    exact ⟨rfl, HB.out⟩
  · have hg : ¬ 100000 < (m : Int) := by omega
    have hm : m ≤ 100000 := by omega
    obtain ⟨r, hr⟩ : ∃ r, r = cutK t off size := ⟨_, rfl⟩
    obtain ⟨q, hq⟩ : ∃ q, q = pcsK t size := ⟨_, rfl⟩
    have C1 := Lib.hid fun (W : World) (hW : Below w.heap.size w W) => C.cCut A m c t off size W (h.below hW) hm ho hz r hr
    have C2 := Lib.hid fun (W : World) (hW : Below w.heap.size w W) => CutR_any A m c t off size W (h.below hW) hm r hr
    have C3 := Lib.hid fun (W : World) (hW : Below w.heap.size w W) => C.cPieces A m c t size W (h.below hW) (by omega) hz q hq
    have C4 := Lib.hid fun (W : World) (hW : Below w.heap.size w W) => PiecesR_any A m c t size W (h.below hW) hm q hq
    obtain ⟨d, b, e⟩ := r
    obtain ⟨n, f⟩ := q
    obtain ⟨nd, hnd⟩ : ∃ n, n = d.length := ⟨_, rfl⟩
    simp only [← hnd] at C1 C2
    have CN := Lib.hid fun k (W : World) (hW : Below w.heap.size w W) => show Calls Tryd.prog 9 #[er k] W _ from num_any k W (HS.out.below HS.out.size hW)
    clear hr hq hbig h hm ho hz hnd
    go_enter Tryd.func3, Tryd.ntmps3
    go_wp2_with (first
      | (go_at_call 4; go_must (refine (sureK C _).mono ?_; rintro y w1 ⟨rfl, hb1⟩; have HB := Lib.hid (HB.out.trans (hb1.mono HB.out.size)); clear hb1))
      | (go_at_call 9; go_must (refine (CN.out _ _ HB.out).mono ?_; rintro y w1 ⟨rfl, hb1⟩; have HB := Lib.hid (HB.out.trans (hb1.mono HB.out.size)); clear hb1))
      | (go_at_call 5; go_must (refine (C1.out _ HB.out).mono ?_; rintro y w1 ⟨A1, c1, rfl, hi1, hb1⟩; have HB := Lib.hid (HB.out.trans (hb1.mono HB.out.size)); have I1 := Lib.hid hi1; clear hi1 hb1))
      | (go_at_call 6; go_must (refine (C2.out _ HB.out).mono ?_; rintro y w1 ⟨A2, c2, rfl, hi1, hb1⟩; have HB := Lib.hid (HB.out.trans (hb1.mono HB.out.size)); have I1 := Lib.hid (I1.out.below hb1); have I2 := Lib.hid hi1; clear hi1 hb1))
      | (go_at_call 7; go_must (refine (C3.out _ HB.out).mono ?_; rintro y w1 ⟨rfl, hb1⟩; have HB := Lib.hid (HB.out.trans (hb1.mono HB.out.size)); have I1 := Lib.hid (I1.out.below hb1); have I2 := Lib.hid (I2.out.below hb1); clear hb1))
      | (go_at_call 8; go_must (refine (C4.out _ HB.out).mono ?_; rintro y w1 ⟨rfl, hb1⟩; have HB := Lib.hid (HB.out.trans (hb1.mono HB.out.size)); have v1 := conv_bytes (I1.out.below hb1).sl_; have v2 := conv_bytes (I2.out.below hb1).sl_; clear hb1)))
    go_ret
    exact ⟨rfl, HB.out⟩

end Go.Proofs.YtfdccdjfbdmblaaDoor.pk
