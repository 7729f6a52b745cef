/-
  The document's own Put: walked.
-/
import Derived.Test.YtfdccdjfbdmblaaLawW
namespace Go.Proofs.Ytfdccdjfbdmblaa.pk
open Go Go.RowKit
set_option maxRecDepth 100000

/-- A call's own two blocks. -/
theorem own_two (w : World) (t t' : Nat) (a0 a1 b0 b1 : Value) : ∃ W2 g0 g1, W2 = (w.alloc (.cells #[a0, a1] t)).alloc (.cells #[b0, b1] t') ∧ g0 = w.heap.size ∧ g1 = g0 + 1 ∧ g1 < W2.heap.size ∧ Below w.heap.size w W2 ∧
    ∀ W, Below W2.heap.size W2 W → W.heap[g0]? = some (.cells #[a0, a1] t (0, 0)) ∧ W.heap[g1]? = some (.cells #[b0, b1] t' (0, 0)) := by
  have h0 : ((w.alloc (.cells #[a0, a1] t)).alloc (.cells #[b0, b1] t')).heap[w.heap.size]? = some (.cells #[a0, a1] t (0, 0)) := (heap_alloc_old _ _ (by rw [World.size_alloc]; omega)).trans (heap_alloc_new w _)
  have h1 : ((w.alloc (.cells #[a0, a1] t)).alloc (.cells #[b0, b1] t')).heap[w.heap.size + 1]? = some (.cells #[b0, b1] t' (0, 0)) := by
    have := heap_alloc_new (w.alloc (.cells #[a0, a1] t)) (.cells #[b0, b1] t')
    rw [World.size_alloc] at this
    exact this
  exact ⟨_, _, _, rfl, rfl, rfl, by simp only [World.size_alloc]; omega, (below_alloc _ _).trans ((below_alloc _ _).mono (by rw [World.size_alloc]; omega)), fun W hW => ⟨(hW.block _ (obj_lt h0)).trans h0, (hW.block _ (obj_lt h1)).trans h1⟩⟩

set_option maxHeartbeats 16000000 in
theorem PutR_any (key0 : Int) (A : Option Addr) (m c : Nat) (h : List UInt8) (key off : Int) (A' : Option Addr) (m' c' : Nat) (p : List UInt8) (last : Bool) (w : World) (T : Nat → Prop) (hh : SlT w (fun q => q < w.heap.size ∧ T q) (.slice A m c) h) (hp : Bys w (.slice A' m' c') p) (hm : m ≤ 1048576) (hm' : m' ≤ 10000) (r : PutR) (hr : r = putK key0 h key off p last) :
    Calls Try.prog 8 #[.agg #[.int .i64 key0, .slice A m c], .int .i64 key, .int .i64 off, .slice A' m' c', .bool last] w fun y w' => ∃ A1 c1 A2 c2, y = .returned (.tuple #[.agg #[.int .i64 r.key, .slice A1 r.hav.length c1], .slice A2 r.txt.length c2, .int .i64 r.n, .bool r.ok]) ∧
      SlT w' (fun q => q < w'.heap.size ∧ (T q ∨ w.heap.size ≤ q)) (.slice A1 r.hav.length c1) r.hav ∧ Bys w' (.slice A2 r.txt.length c2) r.txt ∧ Below w.heap.size w w' := by
  have hhB : Bys w (.slice A m c) h := hh.mono fun _ hq => hq.1
  have HT := Lib.hid hh
  have im : (m : Int) ≤ 1048576 := by omega
  have im' : (m' : Int) ≤ 10000 := by omega
  have hml := hhB.len_
  have hpl := hp.len_
  have HH := Lib.hid (And.intro hhB (And.intro hp (And.intro hml hpl)))
  have hcase : (off ≠ 0 ∧ key ≠ key0) ∨ (off ≠ 0 ∧ key = key0 ∧ off ≠ (m : Int)) ∨ (off ≠ 0 ∧ key = key0 ∧ off = (m : Int) ∧ 1048576 < m + m') ∨ (off ≠ 0 ∧ key = key0 ∧ off = (m : Int) ∧ ¬ 1048576 < m + m') ∨ (off = 0 ∧ key = key0) ∨ (off = 0 ∧ key ≠ key0) := by
    by_cases h0 : off = 0
    · by_cases hk : key = key0
      · exact Or.inr (Or.inr (Or.inr (Or.inr (Or.inl ⟨h0, hk⟩))))
      · exact Or.inr (Or.inr (Or.inr (Or.inr (Or.inr ⟨h0, hk⟩))))
    · by_cases hk : key = key0
      · by_cases hm : off = (m : Int)
        · by_cases hs : 1048576 < m + m'
          · exact Or.inr (Or.inr (Or.inl ⟨h0, hk, hm, hs⟩))
          · exact Or.inr (Or.inr (Or.inr (Or.inl ⟨h0, hk, hm, hs⟩)))
        · exact Or.inr (Or.inl ⟨h0, hk, hm⟩)
      · exact Or.inl ⟨h0, hk⟩
  obtain ⟨W2, g0, g1, hW2, hg0, hg1, hlt, hb2, hcells⟩ := own_two w 26 26 (.int .i64 key0) (.slice A m c) (.int .i64 0) (.slice none 0 0)
  have HC := Lib.hid (And.intro hb2 (And.intro hcells hlt))
  have HW := Lib.hid (And.intro hW2 (And.intro hg0 hg1))
  obtain ⟨c0, c1⟩ := hcells W2 (Below.refl _ _)
  obtain ⟨x0, x1, x2⟩ := cells2 c0
  obtain ⟨y0, y1, y2⟩ := cells2 c1
  have f0 := y2 0
  have f1 := y2 1
  clear x2 y2 c0 c1 hcells hb2 hlt hW2 hg0 hg1 hh hhB hp hm hm'
  have hres : Try.f8.results = #[.cell 10 26, .tmp 11, .tmp 12, .tmp 13] := by kernel_rfl
  rcases hcase with ⟨k1, k2⟩ | ⟨k1, rfl, k3⟩ | ⟨k1, rfl, rfl, k4⟩ | ⟨k1, rfl, rfl, k4⟩ | ⟨rfl, rfl⟩ | ⟨rfl, k2⟩
  · obtain rfl : r = ⟨key0, h, [], 0, false⟩ := by rw [hr]; unfold putK; rw [if_pos ⟨k1, Or.inl k2⟩, if_pos k2]
    clear hr hml hpl
    go_enter Try.func8, Try.ntmps8
    go_upto_region 1 with fail
    rw [← HW.out.1, ← HW.out.2.1, ← HW.out.2.2]
    go_wp2_with fail
    obtain ⟨WF, hWF⟩ : ∃ W, W = ((W2.setCell ⟨g1, 0, none⟩ (.int .i64 key0)).setCell ⟨g1, 1, none⟩ (.slice A m c)) := ⟨_, rfl⟩
    rw [← hWF]
    have hbF : Below w.heap.size w WF := by
      rw [hWF]
      exact ((HC.out.1).setCell (by show w.heap.size ≤ g1; rw [HW.out.2.2, HW.out.2.1]; omega) _).setCell (by show w.heap.size ≤ g1; rw [HW.out.2.2, HW.out.2.1]; omega) _
    obtain ⟨z0, z1, -⟩ := cells2 (show WF.heap[g1]? = _ by rw [hWF]; exact put2 (HC.out.2.1 W2 (Below.refl _ _)).2 (.int .i64 key0) (.slice A m c))
    have HBF := Lib.hid hbF
    have HWF := Lib.hid hWF
    clear hbF hWF
    refine bodyPost_ret (v := .tuple #[.agg #[.int .i64 key0, .slice A m c], .slice none 0 0, .int .i64 0, .bool false]) ?_ rfl ⟨A, c, none, 0, by rw [← HH.out.2.2.1], ?_, Bys.nil_ _, HBF.out⟩
    · simp only [results, hres]
      go_simp
    · rw [← HH.out.2.2.1]; exact (SlT.kept HT.out fun q hq _ => HBF.out.block q hq.1).mono fun q hq => ⟨Nat.lt_of_lt_of_le hq.1 HBF.out.size, Or.inl hq.2⟩
  · obtain rfl : r = ⟨key, h, [], (m : Int), false⟩ := by rw [hr]; unfold putK; rw [if_pos ⟨k1, Or.inr (by rw [← hml]; exact k3)⟩, if_neg (by simp), hml]
    clear hr hml hpl
    go_enter Try.func8, Try.ntmps8
    go_upto_region 1 with fail
    rw [← HW.out.1, ← HW.out.2.1, ← HW.out.2.2]
    go_wp2_with fail
    obtain ⟨WF, hWF⟩ : ∃ W, W = ((W2.setCell ⟨g1, 0, none⟩ (.int .i64 key)).setCell ⟨g1, 1, none⟩ (.slice A m c)) := ⟨_, rfl⟩
    rw [← hWF]
    have hbF : Below w.heap.size w WF := by
      rw [hWF]
      exact ((HC.out.1).setCell (by show w.heap.size ≤ g1; rw [HW.out.2.2, HW.out.2.1]; omega) _).setCell (by show w.heap.size ≤ g1; rw [HW.out.2.2, HW.out.2.1]; omega) _
    obtain ⟨z0, z1, -⟩ := cells2 (show WF.heap[g1]? = _ by rw [hWF]; exact put2 (HC.out.2.1 W2 (Below.refl _ _)).2 (.int .i64 key) (.slice A m c))
    have HBF := Lib.hid hbF
    have HWF := Lib.hid hWF
    clear hbF hWF
    refine bodyPost_ret (v := .tuple #[.agg #[.int .i64 key, .slice A m c], .slice none 0 0, .int .i64 (m : Int), .bool false]) ?_ rfl ⟨A, c, none, 0, by rw [← HH.out.2.2.1], ?_, Bys.nil_ _, HBF.out⟩
    · simp only [results, hres]
      go_simp
    · rw [← HH.out.2.2.1]; exact (SlT.kept HT.out fun q hq _ => HBF.out.block q hq.1).mono fun q hq => ⟨Nat.lt_of_lt_of_le hq.1 HBF.out.size, Or.inl hq.2⟩
  · obtain rfl : r = ⟨key, h, [], (m : Int), false⟩ := by rw [hr]; unfold putK; rw [if_neg (by rintro ⟨-, h | h⟩; exact h rfl; exact h (by rw [← hml])), if_neg k1, if_pos (by rw [← hml, ← hpl]; exact k4), if_neg (by simp), hml]
    have N0 := Lib.hid (World.ownsRow_nil W2 W2.heap.size 5 1)
    have i4 : (1048576 : Int) < (m : Int) + (m' : Int) := by omega
    have s4 : IntKind.i64.wrap ((m : Int) + (m' : Int)) = (m : Int) + (m' : Int) := IntWalk.i64_in _ (by omega)
    clear hr hml hpl
    go_enter Try.func8, Try.ntmps8
    go_upto_region 1 with fail
    rw [← HW.out.1, ← HW.out.2.1, ← HW.out.2.2]
    go_wp2_with (at_builtin; go_must (refine wpList_joinB (B := W2.heap.size) (v := .slice none 0 0) (xs := []) N0.out rfl (.tmp 36) (.tmp 38) rfl rfl A m c rfl h (HH.out.1.below HC.out.1) (by simp; omega) (Nat.le_refl _) ?_; intro v1 w1 ho1 hg1; rw [List.nil_append] at ho1; obtain ⟨A1, c1, hv1, -, -⟩ := (Bys.of_own ho1).form; rw [← HH.out.2.2.1] at hv1; subst hv1; have O1 := Lib.hid (And.intro ho1 ((Below.refl W2.heap.size W2).grown hg1 (Nat.le_refl _) (fun k hk => by cases hk))); obtain ⟨u0, u1⟩ := HC.out.2.1 w1 O1.out.2; obtain ⟨p0, p1, p2⟩ := cells2 u0; obtain ⟨q0, q1, q2⟩ := cells2 u1; have f2 := q2 0; have f3 := q2 1; clear ho1 hg1 u0 u1 p2 q2))
    obtain ⟨WF, hWF⟩ : ∃ W, W = ((w1.setCell ⟨g1, 0, none⟩ (.int .i64 key)).setCell ⟨g1, 1, none⟩ (.slice A m c)) := ⟨_, rfl⟩
    rw [← hWF]
    have hbF : Below w.heap.size w WF := by
      rw [hWF]
      exact (((HC.out.1.trans (O1.out.2.mono HC.out.1.size))).setCell (by show w.heap.size ≤ g1; rw [HW.out.2.2, HW.out.2.1]; omega) _).setCell (by show w.heap.size ≤ g1; rw [HW.out.2.2, HW.out.2.1]; omega) _
    obtain ⟨z0, z1, -⟩ := cells2 (show WF.heap[g1]? = _ by rw [hWF]; exact put2 (HC.out.2.1 w1 O1.out.2).2 (.int .i64 key) (.slice A m c))
    have HBF := Lib.hid hbF
    have HWF := Lib.hid hWF
    clear hbF hWF
    refine bodyPost_ret (v := .tuple #[.agg #[.int .i64 key, .slice A m c], .slice none 0 0, .int .i64 (m : Int), .bool false]) ?_ rfl ⟨A, c, none, 0, by rw [← HH.out.2.2.1], ?_, Bys.nil_ _, HBF.out⟩
    · simp only [results, hres]
      go_simp
    · rw [← HH.out.2.2.1]; exact (SlT.kept HT.out fun q hq _ => HBF.out.block q hq.1).mono fun q hq => ⟨Nat.lt_of_lt_of_le hq.1 HBF.out.size, Or.inl hq.2⟩
  · obtain ⟨al, hal⟩ : ∃ al, al = h ++ p := ⟨_, rfl⟩
    have HAL := Lib.hid hal
    obtain ⟨n2, hn2⟩ : ∃ n, n = al.length := ⟨_, rfl⟩
    have HN2 := Lib.hid hn2
    obtain rfl : r = if last then ⟨key, [], al, al.length, true⟩ else ⟨key, al, [], al.length, false⟩ := by rw [hr]; unfold putK; rw [if_neg (by rintro ⟨-, h | h⟩; exact h rfl; exact h (by rw [← hml])), if_neg k1, if_neg (by rw [← hml, ← hpl]; exact k4), if_neg k1, hal]
    have N0 := Lib.hid (World.ownsRow_nil W2 W2.heap.size 5 1)
    have i4 : ¬ (1048576 : Int) < (m : Int) + (m' : Int) := by omega
    have s4 : IntKind.i64.wrap ((m : Int) + (m' : Int)) = (m : Int) + (m' : Int) := IntWalk.i64_in _ (by omega)
    have hb2 : (n2 : Int) ≤ 9223372036854775807 := by rw [hn2, hal, List.length_append, ← hml, ← hpl]; omega
    clear hr hml hpl hn2 hal
    cases last
    case true =>
      go_enter Try.func8, Try.ntmps8
      go_upto_region 1 with fail
      rw [← HW.out.1, ← HW.out.2.1, ← HW.out.2.2]
      go_wp2_with (first
        | (at_builtin; have h0 := O1.out.2.size; go_must (refine wpList_joinB (B := W2.heap.size) (v := .slice A1 m c1) (xs := h) O1.out.1 rfl (.tmp 48) (.tmp 49) rfl rfl A' m' c' rfl p (HH.out.2.1.below (HC.out.1.trans ((O1.out.2).mono HC.out.1.size))) (by have := HH.out.2.2.1; omega) (O1.out.2).size ?_; intro v2 w2 ho2 hg2; rw [← HAL.out] at ho2; obtain ⟨A2, c2, hv2, -, -⟩ := (Bys.of_own ho2).form; rw [← HN2.out] at hv2; subst hv2; have O2 := Lib.hid (And.intro ho2 ((O1.out.2).grown hg2 (O1.out.2).size (fun k hk => (O1.out.1.lt k hk).1))); obtain ⟨u0, u1⟩ := HC.out.2.1 w2 O2.out.2; obtain ⟨p0, p1, p2⟩ := cells2 u0; obtain ⟨q0, q1, q2⟩ := cells2 u1; have f4 := q2 0; have f5 := q2 1; clear h0 ho2 hg2 u0 u1 p2 q2))
        | (at_builtin; go_must (refine wpList_joinB (B := W2.heap.size) (v := .slice none 0 0) (xs := []) N0.out rfl (.tmp 36) (.tmp 38) rfl rfl A m c rfl h (HH.out.1.below HC.out.1) (by simp; omega) (Nat.le_refl _) ?_; intro v1 w1 ho1 hg1; rw [List.nil_append] at ho1; obtain ⟨A1, c1, hv1, -, -⟩ := (Bys.of_own ho1).form; rw [← HH.out.2.2.1] at hv1; subst hv1; have O1 := Lib.hid (And.intro ho1 ((Below.refl W2.heap.size W2).grown hg1 (Nat.le_refl _) (fun k hk => by cases hk))); obtain ⟨u0, u1⟩ := HC.out.2.1 w1 O1.out.2; obtain ⟨p0, p1, p2⟩ := cells2 u0; obtain ⟨q0, q1, q2⟩ := cells2 u1; have f2 := q2 0; have f3 := q2 1; clear ho1 hg1 u0 u1 p2 q2)))
      obtain ⟨WF, hWF⟩ : ∃ W, W = ((w2.setCell ⟨g1, 0, none⟩ (.int .i64 key)).setCell ⟨g1, 1, none⟩ (.slice none 0 0)) := ⟨_, rfl⟩
      rw [← hWF]
      have hbF : Below w.heap.size w WF := by
        rw [hWF]
        exact (((HC.out.1.trans (O2.out.2.mono HC.out.1.size))).setCell (by show w.heap.size ≤ g1; rw [HW.out.2.2, HW.out.2.1]; omega) _).setCell (by show w.heap.size ≤ g1; rw [HW.out.2.2, HW.out.2.1]; omega) _
      obtain ⟨z0, z1, -⟩ := cells2 (show WF.heap[g1]? = _ by rw [hWF]; exact put2 (HC.out.2.1 w2 O2.out.2).2 (.int .i64 key) (.slice none 0 0))
      have HBF := Lib.hid hbF
      have HWF := Lib.hid hWF
      clear hbF hWF
      refine bodyPost_ret (v := .tuple #[.agg #[.int .i64 key, .slice none 0 0], .slice A2 n2 c2, .int .i64 (n2 : Int), .bool true]) ?_ rfl ⟨none, 0, A2, c2, by rw [HN2.out], SlT.nil_ _ _, ?_, HBF.out⟩
      · simp only [results, hres]
        go_simp
      · have hs : SlT w2 (fun q => W2.heap.size ≤ q ∧ q < w2.heap.size) (.slice A2 n2 c2) al := by
          exact SlT.of_own O2.out.1 _ fun q hq => O2.out.1.lt q hq
        have h2 : SlT WF (fun q => W2.heap.size ≤ q ∧ q < w2.heap.size) (.slice A2 n2 c2) al := SlT.kept hs fun x hx _ => by rw [HWF.out]; exact put2_other _ _ _ _ x (by have := hx.1; have := HC.out.2.2; omega)
        rw [← HN2.out]
        first
          | exact h2.mono fun x hx => (by have := hx.2; rw [HWF.out, World.size_setCell, World.size_setCell]; exact this)
          | exact h2.mono fun x hx => ⟨by have := hx.2; rw [HWF.out, World.size_setCell, World.size_setCell]; exact this, Or.inr (Nat.le_trans HC.out.1.size hx.1)⟩
    case false =>
      go_enter Try.func8, Try.ntmps8
      go_upto_region 1 with fail
      rw [← HW.out.1, ← HW.out.2.1, ← HW.out.2.2]
      go_wp2_with (first
        | (at_builtin; have h0 := O1.out.2.size; go_must (refine wpList_joinB (B := W2.heap.size) (v := .slice A1 m c1) (xs := h) O1.out.1 rfl (.tmp 48) (.tmp 49) rfl rfl A' m' c' rfl p (HH.out.2.1.below (HC.out.1.trans ((O1.out.2).mono HC.out.1.size))) (by have := HH.out.2.2.1; omega) (O1.out.2).size ?_; intro v2 w2 ho2 hg2; rw [← HAL.out] at ho2; obtain ⟨A2, c2, hv2, -, -⟩ := (Bys.of_own ho2).form; rw [← HN2.out] at hv2; subst hv2; have O2 := Lib.hid (And.intro ho2 ((O1.out.2).grown hg2 (O1.out.2).size (fun k hk => (O1.out.1.lt k hk).1))); obtain ⟨u0, u1⟩ := HC.out.2.1 w2 O2.out.2; obtain ⟨p0, p1, p2⟩ := cells2 u0; obtain ⟨q0, q1, q2⟩ := cells2 u1; have f4 := q2 0; have f5 := q2 1; clear h0 ho2 hg2 u0 u1 p2 q2))
        | (at_builtin; go_must (refine wpList_joinB (B := W2.heap.size) (v := .slice none 0 0) (xs := []) N0.out rfl (.tmp 36) (.tmp 38) rfl rfl A m c rfl h (HH.out.1.below HC.out.1) (by simp; omega) (Nat.le_refl _) ?_; intro v1 w1 ho1 hg1; rw [List.nil_append] at ho1; obtain ⟨A1, c1, hv1, -, -⟩ := (Bys.of_own ho1).form; rw [← HH.out.2.2.1] at hv1; subst hv1; have O1 := Lib.hid (And.intro ho1 ((Below.refl W2.heap.size W2).grown hg1 (Nat.le_refl _) (fun k hk => by cases hk))); obtain ⟨u0, u1⟩ := HC.out.2.1 w1 O1.out.2; obtain ⟨p0, p1, p2⟩ := cells2 u0; obtain ⟨q0, q1, q2⟩ := cells2 u1; have f2 := q2 0; have f3 := q2 1; clear ho1 hg1 u0 u1 p2 q2)))
      obtain ⟨WF, hWF⟩ : ∃ W, W = ((w2.setCell ⟨g1, 0, none⟩ (.int .i64 key)).setCell ⟨g1, 1, none⟩ (.slice A2 n2 c2)) := ⟨_, rfl⟩
      rw [← hWF]
      have hbF : Below w.heap.size w WF := by
        rw [hWF]
        exact (((HC.out.1.trans (O2.out.2.mono HC.out.1.size))).setCell (by show w.heap.size ≤ g1; rw [HW.out.2.2, HW.out.2.1]; omega) _).setCell (by show w.heap.size ≤ g1; rw [HW.out.2.2, HW.out.2.1]; omega) _
      obtain ⟨z0, z1, -⟩ := cells2 (show WF.heap[g1]? = _ by rw [hWF]; exact put2 (HC.out.2.1 w2 O2.out.2).2 (.int .i64 key) (.slice A2 n2 c2))
      have HBF := Lib.hid hbF
      have HWF := Lib.hid hWF
      clear hbF hWF
      refine bodyPost_ret (v := .tuple #[.agg #[.int .i64 key, .slice A2 n2 c2], .slice none 0 0, .int .i64 (n2 : Int), .bool false]) ?_ rfl ⟨A2, c2, none, 0, by rw [HN2.out], ?_, Bys.nil_ _, HBF.out⟩
      · simp only [results, hres]
        go_simp
      · have hs : SlT w2 (fun q => W2.heap.size ≤ q ∧ q < w2.heap.size) (.slice A2 n2 c2) al := by
          exact SlT.of_own O2.out.1 _ fun q hq => O2.out.1.lt q hq
        have h2 : SlT WF (fun q => W2.heap.size ≤ q ∧ q < w2.heap.size) (.slice A2 n2 c2) al := SlT.kept hs fun x hx _ => by rw [HWF.out]; exact put2_other _ _ _ _ x (by have := hx.1; have := HC.out.2.2; omega)
        rw [← HN2.out]
        first
          | exact h2.mono fun x hx => (by have := hx.2; rw [HWF.out, World.size_setCell, World.size_setCell]; exact this)
          | exact h2.mono fun x hx => ⟨by have := hx.2; rw [HWF.out, World.size_setCell, World.size_setCell]; exact this, Or.inr (Nat.le_trans HC.out.1.size hx.1)⟩
  · skip
    obtain ⟨al, hal⟩ : ∃ al, al = [] ++ p := ⟨_, rfl⟩
    have HAL := Lib.hid hal
    have HN2 := Lib.hid (show m' = al.length by rw [hal, List.nil_append]; exact hpl)
    obtain ⟨n2, hn2⟩ : ∃ n, n = m' := ⟨_, rfl⟩
    rw [← hn2] at HN2
    obtain rfl : r = if last then ⟨key, [], al, al.length, true⟩ else ⟨key, al, [], al.length, false⟩ := by rw [hr]; unfold putK; rw [if_neg (by rintro ⟨h, -⟩; exact h rfl), if_pos rfl, if_neg (by rw [← hpl]; omega), if_pos rfl, hal]
    have N0 := Lib.hid (World.ownsRow_nil W2 W2.heap.size 5 1)
    have i4 : ¬ (1048576 : Int) < (m' : Int) := by omega
    clear hr hml hpl
    clear hn2 hal
    cases last
    case true =>
      go_enter Try.func8, Try.ntmps8
      go_upto_region 1 with fail
      rw [← HW.out.1, ← HW.out.2.1, ← HW.out.2.2]
      go_wp2_with (at_builtin; go_must (refine wpList_joinB (B := W2.heap.size) (v := .slice none 0 0) (xs := []) N0.out rfl (.tmp 48) (.tmp 49) rfl rfl A' m' c' rfl p (HH.out.2.1.below (HC.out.1.trans ((Below.refl W2.heap.size W2).mono HC.out.1.size))) (by simp; omega) (Below.refl W2.heap.size W2).size ?_; intro v2 w2 ho2 hg2; rw [← HAL.out] at ho2; obtain ⟨A2, c2, hv2, -, -⟩ := (Bys.of_own ho2).form; rw [← HN2.out] at hv2; subst hv2; have O2 := Lib.hid (And.intro ho2 ((Below.refl W2.heap.size W2).grown hg2 (Below.refl W2.heap.size W2).size (fun k hk => by cases hk))); obtain ⟨u0, u1⟩ := HC.out.2.1 w2 O2.out.2; obtain ⟨p0, p1, p2⟩ := cells2 u0; obtain ⟨q0, q1, q2⟩ := cells2 u1; have f4 := q2 0; have f5 := q2 1; clear ho2 hg2 u0 u1 p2 q2))
      obtain ⟨WF, hWF⟩ : ∃ W, W = ((w2.setCell ⟨g1, 0, none⟩ (.int .i64 key)).setCell ⟨g1, 1, none⟩ (.slice none 0 0)) := ⟨_, rfl⟩
      rw [← hWF]
      have hbF : Below w.heap.size w WF := by
        rw [hWF]
        exact (((HC.out.1.trans (O2.out.2.mono HC.out.1.size))).setCell (by show w.heap.size ≤ g1; rw [HW.out.2.2, HW.out.2.1]; omega) _).setCell (by show w.heap.size ≤ g1; rw [HW.out.2.2, HW.out.2.1]; omega) _
      obtain ⟨z0, z1, -⟩ := cells2 (show WF.heap[g1]? = _ by rw [hWF]; exact put2 (HC.out.2.1 w2 O2.out.2).2 (.int .i64 key) (.slice none 0 0))
      have HBF := Lib.hid hbF
      have HWF := Lib.hid hWF
      clear hbF hWF
      refine bodyPost_ret (v := .tuple #[.agg #[.int .i64 key, .slice none 0 0], .slice A2 n2 c2, .int .i64 (n2 : Int), .bool true]) ?_ rfl ⟨none, 0, A2, c2, by rw [HN2.out], SlT.nil_ _ _, ?_, HBF.out⟩
      · simp only [results, hres]
        go_simp
      · have hs : SlT w2 (fun q => W2.heap.size ≤ q ∧ q < w2.heap.size) (.slice A2 n2 c2) al := by
          exact SlT.of_own O2.out.1 _ fun q hq => O2.out.1.lt q hq
        have h2 : SlT WF (fun q => W2.heap.size ≤ q ∧ q < w2.heap.size) (.slice A2 n2 c2) al := SlT.kept hs fun x hx _ => by rw [HWF.out]; exact put2_other _ _ _ _ x (by have := hx.1; have := HC.out.2.2; omega)
        rw [← HN2.out]
        first
          | exact h2.mono fun x hx => (by have := hx.2; rw [HWF.out, World.size_setCell, World.size_setCell]; exact this)
          | exact h2.mono fun x hx => ⟨by have := hx.2; rw [HWF.out, World.size_setCell, World.size_setCell]; exact this, Or.inr (Nat.le_trans HC.out.1.size hx.1)⟩
    case false =>
      go_enter Try.func8, Try.ntmps8
      go_upto_region 1 with fail
      rw [← HW.out.1, ← HW.out.2.1, ← HW.out.2.2]
      go_wp2_with (at_builtin; go_must (refine wpList_joinB (B := W2.heap.size) (v := .slice none 0 0) (xs := []) N0.out rfl (.tmp 48) (.tmp 49) rfl rfl A' m' c' rfl p (HH.out.2.1.below (HC.out.1.trans ((Below.refl W2.heap.size W2).mono HC.out.1.size))) (by simp; omega) (Below.refl W2.heap.size W2).size ?_; intro v2 w2 ho2 hg2; rw [← HAL.out] at ho2; obtain ⟨A2, c2, hv2, -, -⟩ := (Bys.of_own ho2).form; rw [← HN2.out] at hv2; subst hv2; have O2 := Lib.hid (And.intro ho2 ((Below.refl W2.heap.size W2).grown hg2 (Below.refl W2.heap.size W2).size (fun k hk => by cases hk))); obtain ⟨u0, u1⟩ := HC.out.2.1 w2 O2.out.2; obtain ⟨p0, p1, p2⟩ := cells2 u0; obtain ⟨q0, q1, q2⟩ := cells2 u1; have f4 := q2 0; have f5 := q2 1; clear ho2 hg2 u0 u1 p2 q2))
      obtain ⟨WF, hWF⟩ : ∃ W, W = ((w2.setCell ⟨g1, 0, none⟩ (.int .i64 key)).setCell ⟨g1, 1, none⟩ (.slice A2 n2 c2)) := ⟨_, rfl⟩
      rw [← hWF]
      have hbF : Below w.heap.size w WF := by
        rw [hWF]
        exact (((HC.out.1.trans (O2.out.2.mono HC.out.1.size))).setCell (by show w.heap.size ≤ g1; rw [HW.out.2.2, HW.out.2.1]; omega) _).setCell (by show w.heap.size ≤ g1; rw [HW.out.2.2, HW.out.2.1]; omega) _
      obtain ⟨z0, z1, -⟩ := cells2 (show WF.heap[g1]? = _ by rw [hWF]; exact put2 (HC.out.2.1 w2 O2.out.2).2 (.int .i64 key) (.slice A2 n2 c2))
      have HBF := Lib.hid hbF
      have HWF := Lib.hid hWF
      clear hbF hWF
      refine bodyPost_ret (v := .tuple #[.agg #[.int .i64 key, .slice A2 n2 c2], .slice none 0 0, .int .i64 (n2 : Int), .bool false]) ?_ rfl ⟨A2, c2, none, 0, by rw [HN2.out], ?_, Bys.nil_ _, HBF.out⟩
      · simp only [results, hres]
        go_simp
      · have hs : SlT w2 (fun q => W2.heap.size ≤ q ∧ q < w2.heap.size) (.slice A2 n2 c2) al := by
          exact SlT.of_own O2.out.1 _ fun q hq => O2.out.1.lt q hq
        have h2 : SlT WF (fun q => W2.heap.size ≤ q ∧ q < w2.heap.size) (.slice A2 n2 c2) al := SlT.kept hs fun x hx _ => by rw [HWF.out]; exact put2_other _ _ _ _ x (by have := hx.1; have := HC.out.2.2; omega)
        rw [← HN2.out]
        first
          | exact h2.mono fun x hx => (by have := hx.2; rw [HWF.out, World.size_setCell, World.size_setCell]; exact this)
          | exact h2.mono fun x hx => ⟨by have := hx.2; rw [HWF.out, World.size_setCell, World.size_setCell]; exact this, Or.inr (Nat.le_trans HC.out.1.size hx.1)⟩
  · skip
    obtain ⟨al, hal⟩ : ∃ al, al = [] ++ p := ⟨_, rfl⟩
    have HAL := Lib.hid hal
    have HN2 := Lib.hid (show m' = al.length by rw [hal, List.nil_append]; exact hpl)
    obtain ⟨n2, hn2⟩ : ∃ n, n = m' := ⟨_, rfl⟩
    rw [← hn2] at HN2
    obtain rfl : r = if last then ⟨key, [], al, al.length, true⟩ else ⟨key, al, [], al.length, false⟩ := by rw [hr]; unfold putK; rw [if_neg (by rintro ⟨h, -⟩; exact h rfl), if_pos rfl, if_neg (by rw [← hpl]; omega), if_pos rfl, hal]
    have N0 := Lib.hid (World.ownsRow_nil W2 W2.heap.size 5 1)
    have i4 : ¬ (1048576 : Int) < (m' : Int) := by omega
    clear hr hml hpl
    clear hn2 hal
    cases last
    case true =>
      go_enter Try.func8, Try.ntmps8
      go_upto_region 1 with fail
      rw [← HW.out.1, ← HW.out.2.1, ← HW.out.2.2]
      go_wp2_with (at_builtin; go_must (refine wpList_joinB (B := W2.heap.size) (v := .slice none 0 0) (xs := []) N0.out rfl (.tmp 48) (.tmp 49) rfl rfl A' m' c' rfl p (HH.out.2.1.below (HC.out.1.trans ((Below.refl W2.heap.size W2).mono HC.out.1.size))) (by simp; omega) (Below.refl W2.heap.size W2).size ?_; intro v2 w2 ho2 hg2; rw [← HAL.out] at ho2; obtain ⟨A2, c2, hv2, -, -⟩ := (Bys.of_own ho2).form; rw [← HN2.out] at hv2; subst hv2; have O2 := Lib.hid (And.intro ho2 ((Below.refl W2.heap.size W2).grown hg2 (Below.refl W2.heap.size W2).size (fun k hk => by cases hk))); obtain ⟨u0, u1⟩ := HC.out.2.1 w2 O2.out.2; obtain ⟨p0, p1, p2⟩ := cells2 u0; obtain ⟨q0, q1, q2⟩ := cells2 u1; have f4 := q2 0; have f5 := q2 1; clear ho2 hg2 u0 u1 p2 q2))
      obtain ⟨WF, hWF⟩ : ∃ W, W = ((w2.setCell ⟨g1, 0, none⟩ (.int .i64 key)).setCell ⟨g1, 1, none⟩ (.slice none 0 0)) := ⟨_, rfl⟩
      rw [← hWF]
      have hbF : Below w.heap.size w WF := by
        rw [hWF]
        exact (((HC.out.1.trans (O2.out.2.mono HC.out.1.size))).setCell (by show w.heap.size ≤ g1; rw [HW.out.2.2, HW.out.2.1]; omega) _).setCell (by show w.heap.size ≤ g1; rw [HW.out.2.2, HW.out.2.1]; omega) _
      obtain ⟨z0, z1, -⟩ := cells2 (show WF.heap[g1]? = _ by rw [hWF]; exact put2 (HC.out.2.1 w2 O2.out.2).2 (.int .i64 key) (.slice none 0 0))
      have HBF := Lib.hid hbF
      have HWF := Lib.hid hWF
      clear hbF hWF
      refine bodyPost_ret (v := .tuple #[.agg #[.int .i64 key, .slice none 0 0], .slice A2 n2 c2, .int .i64 (n2 : Int), .bool true]) ?_ rfl ⟨none, 0, A2, c2, by rw [HN2.out], SlT.nil_ _ _, ?_, HBF.out⟩
      · simp only [results, hres]
        go_simp
      · have hs : SlT w2 (fun q => W2.heap.size ≤ q ∧ q < w2.heap.size) (.slice A2 n2 c2) al := by
          exact SlT.of_own O2.out.1 _ fun q hq => O2.out.1.lt q hq
        have h2 : SlT WF (fun q => W2.heap.size ≤ q ∧ q < w2.heap.size) (.slice A2 n2 c2) al := SlT.kept hs fun x hx _ => by rw [HWF.out]; exact put2_other _ _ _ _ x (by have := hx.1; have := HC.out.2.2; omega)
        rw [← HN2.out]
        first
          | exact h2.mono fun x hx => (by have := hx.2; rw [HWF.out, World.size_setCell, World.size_setCell]; exact this)
          | exact h2.mono fun x hx => ⟨by have := hx.2; rw [HWF.out, World.size_setCell, World.size_setCell]; exact this, Or.inr (Nat.le_trans HC.out.1.size hx.1)⟩
    case false =>
      go_enter Try.func8, Try.ntmps8
      go_upto_region 1 with fail
      rw [← HW.out.1, ← HW.out.2.1, ← HW.out.2.2]
      go_wp2_with (at_builtin; go_must (refine wpList_joinB (B := W2.heap.size) (v := .slice none 0 0) (xs := []) N0.out rfl (.tmp 48) (.tmp 49) rfl rfl A' m' c' rfl p (HH.out.2.1.below (HC.out.1.trans ((Below.refl W2.heap.size W2).mono HC.out.1.size))) (by simp; omega) (Below.refl W2.heap.size W2).size ?_; intro v2 w2 ho2 hg2; rw [← HAL.out] at ho2; obtain ⟨A2, c2, hv2, -, -⟩ := (Bys.of_own ho2).form; rw [← HN2.out] at hv2; subst hv2; have O2 := Lib.hid (And.intro ho2 ((Below.refl W2.heap.size W2).grown hg2 (Below.refl W2.heap.size W2).size (fun k hk => by cases hk))); obtain ⟨u0, u1⟩ := HC.out.2.1 w2 O2.out.2; obtain ⟨p0, p1, p2⟩ := cells2 u0; obtain ⟨q0, q1, q2⟩ := cells2 u1; have f4 := q2 0; have f5 := q2 1; clear ho2 hg2 u0 u1 p2 q2))
      obtain ⟨WF, hWF⟩ : ∃ W, W = ((w2.setCell ⟨g1, 0, none⟩ (.int .i64 key)).setCell ⟨g1, 1, none⟩ (.slice A2 n2 c2)) := ⟨_, rfl⟩
      rw [← hWF]
      have hbF : Below w.heap.size w WF := by
        rw [hWF]
        exact (((HC.out.1.trans (O2.out.2.mono HC.out.1.size))).setCell (by show w.heap.size ≤ g1; rw [HW.out.2.2, HW.out.2.1]; omega) _).setCell (by show w.heap.size ≤ g1; rw [HW.out.2.2, HW.out.2.1]; omega) _
      obtain ⟨z0, z1, -⟩ := cells2 (show WF.heap[g1]? = _ by rw [hWF]; exact put2 (HC.out.2.1 w2 O2.out.2).2 (.int .i64 key) (.slice A2 n2 c2))
      have HBF := Lib.hid hbF
      have HWF := Lib.hid hWF
      clear hbF hWF
      refine bodyPost_ret (v := .tuple #[.agg #[.int .i64 key, .slice A2 n2 c2], .slice none 0 0, .int .i64 (n2 : Int), .bool false]) ?_ rfl ⟨A2, c2, none, 0, by rw [HN2.out], ?_, Bys.nil_ _, HBF.out⟩
      · simp only [results, hres]
        go_simp
      · have hs : SlT w2 (fun q => W2.heap.size ≤ q ∧ q < w2.heap.size) (.slice A2 n2 c2) al := by
          exact SlT.of_own O2.out.1 _ fun q hq => O2.out.1.lt q hq
        have h2 : SlT WF (fun q => W2.heap.size ≤ q ∧ q < w2.heap.size) (.slice A2 n2 c2) al := SlT.kept hs fun x hx _ => by rw [HWF.out]; exact put2_other _ _ _ _ x (by have := hx.1; have := HC.out.2.2; omega)
        rw [← HN2.out]
        first
          | exact h2.mono fun x hx => (by have := hx.2; rw [HWF.out, World.size_setCell, World.size_setCell]; exact this)
          | exact h2.mono fun x hx => ⟨by have := hx.2; rw [HWF.out, World.size_setCell, World.size_setCell]; exact this, Or.inr (Nat.le_trans HC.out.1.size hx.1)⟩

end Go.Proofs.Ytfdccdjfbdmblaa.pk
