/-
  The program's own pieces: Put of a piece that is taken.
-/
import Derived.Test.YtfdccdjfbdmblaaDoorHk4
namespace Go.Proofs.YtfdccdjfbdmblaaDoor.pk
open Go Go.RowKit
set_option maxRecDepth 100000

set_option maxHeartbeats 8000000 in
/-- A piece that is taken. -/
theorem Put_yes (key0 key : Int) (A HA A' : Option Addr) (m c hn hc m' c' o n : Nat) (last : Bool) (hb p x : List UInt8) (w : World)
    (hp : Bys w (.slice A' m' c') p) (hB : Bys w (.slice HA o hc) hb) (hoh : o ≤ hn) (hhc : hn ≤ hc) (hcm : hc ≤ 9223372036854775807) (ho : o = 0 ∨ o = hn) (hs : o + m' ≤ 1048576) (hx : x = hb ++ p) (hn0 : n = o + m')
    (HU : ∀ W, Calls Tryd.prog 14 #[.agg #[.int .i64 key0, .slice A m c], .int .i64 key] W fun y w' => y = .returned (.slice HA hn hc) ∧ Below W.heap.size W w') :
    Calls Tryd.prog 10 #[.agg #[.int .i64 key0, .slice A m c], .int .i64 key, .int .i64 (o : Int), .slice A' m' c', .bool last] w fun y w' => ∃ A1 c1,
      y = .returned (.tuple (if last then #[.agg #[.int .i64 key, .slice none 0 0], .slice A1 n c1, .int .i64 (n : Int), .bool true] else #[.agg #[.int .i64 key, .slice A1 n c1], .slice none 0 0, .int .i64 (n : Int), .bool false])) ∧
      SlT w' (fun q => w.heap.size ≤ q ∧ q < w'.heap.size) (.slice A1 n c1) x ∧ Below w.heap.size w w' := by
  obtain ⟨W1, g, g2, hW1, hg, hg2, hb1, hq, hq2, hsz⟩ := ktwo_box w (.cells #[.int .i64 key0, .slice A m c] 37) (.cells #[.int .i64 0, .slice none 0 0] 37)
  have HW := Lib.hid (And.intro hW1 (And.intro hg hg2))
  have HE := Lib.hid (And.intro hb1 (And.intro (show w.heap.size = g by omega) (And.intro (show g2 = g + 1 by omega) hsz)))
  have HQ2 := Lib.hid (show ∀ W, Below W1.heap.size W1 W → W.heap[g2]? = some (.cells #[.int .i64 0, .slice none 0 0] 37 (0, 0)) from fun W hW => (hW.block g2 (kobj_lt hq2)).trans hq2)
  have HCL := Lib.hid (show ∀ W, Below g2 W1 W → W.cell? ⟨g, 0, none⟩ = some (.int .i64 key0) ∧ W.cell? ⟨g, 1, none⟩ = some (.slice A m c) from fun W hW => kcells2 ((hW.block g (by omega)).trans hq))
  have H21 := Lib.hid (show ∀ W, Below W1.heap.size W1 W → Below g2 W1 W from fun W hW => hW.mono (by omega))
  have CU := Lib.hid (HU W1)
  have CC := Lib.hid (show ∀ W, Below w.heap.size w W → _ from fun W hW => ConcatK HA A' o hc m' c' W.heap.size hb p (W.alloc (.cells #[.slice HA o hc, .slice A' m' c'] 22)) ((hB.below hW).below (below_alloc W _)) ((hp.below hW).below (below_alloc W _)) (heap_alloc_new W _) (by omega) (by omega))
  obtain ⟨x0, x1⟩ := HCL.out W1 (Below.refl _ _)
  have hres : Tryd.f10.results = #[.cell 10 37, .tmp 11, .tmp 12, .tmp 13] := by kernel_rfl
  have hl : x.length = n := by have h1 := hB.len_; have h2 := hp.len_; rw [hx, List.length_append, hn0]; omega
  have HX := Lib.hid (And.intro hx hl)
  have in1 : (o : Int) ≤ (hn : Int) := by omega
  have in3 : (hn : Int) ≤ (hc : Int) := by omega
  have in4 : (o : Int) ≤ (hc : Int) := by omega
  have in2 : (m' : Int) ≤ 1048576 - (o : Int) := by omega
  have in5 : (n : Int) ≤ 1048576 := by omega
  have in6 : (o : Int) ≤ 1048576 := by omega
  have hcond : o = 0 ∨ (¬ (o : Int) = 0 ∧ o = hn) := by omega
  clear hp hB hs HU hW1 hg hg2 hb1 hq hq2 hsz hl hx hn0 hoh hhc hcm ho
  rcases hcond with rfl | ⟨k1, rfl⟩
  all_goals
    go_enter Tryd.func10, Tryd.ntmps10
    go_upto_region 1 with fail
    rw [← HW.out.1, ← HW.out.2.1, ← HW.out.2.2]
    go_upto_region 4 with (go_at_call 14; go_must (refine CU.out.mono ?_; rintro y w1 ⟨rfl, hb1⟩; obtain ⟨x0, x1⟩ := HCL.out w1 (H21.out w1 hb1); have HB := Lib.hid hb1; clear hb1))
    go_upto_region 5 with (go_at_call 15; go_must (refine (CC.out _ (HE.out.1.trans (HB.out.mono HE.out.1.size))).mono ?_; rintro y w5 ⟨v, rfl, ho5, hb5⟩; have HB5 := Lib.hid (And.intro ho5 hb5); clear ho5 hb5))
    obtain ⟨Ax, cx, hv, -, -⟩ := (Bys.of_own HB5.out.1).form
    rw [← HX.out.1, HX.out.2] at hv
    subst hv
    have hsl : SlT w5 (fun q => w1.heap.size < q ∧ q < w5.heap.size) (.slice Ax n cx) x := by
      rw [HX.out.1]
      refine SlT.of_own HB5.out.1 _ fun q hq => ?_
      have h1 := HB5.out.1.lt q hq
      rw [World.size_alloc] at h1
      omega
    have hb5 : Below W1.heap.size W1 w5 := HB.out.trans (((below_alloc w1 _).trans (HB5.out.2.mono (by rw [World.size_alloc]; omega))).mono HB.out.size)
    have hS := HQ2.out _ hb5
    obtain ⟨y0, y1⟩ := kcells2 hS
    have f0 := kfrozen hS 0
    have f1 := kfrozen hS 1
    have H5 := Lib.hid (And.intro hsl (And.intro hb5 hS))
    clear hsl hb5 hS x0 x1
    cases last
    · go_wp2_with fail
      obtain ⟨WF, hWF, z0, z1, hbF, hoth, hsz2⟩ := kboxRes (b0 := .int .i64 key) (b1 := .slice Ax n cx) H5.out.2.2 (H21.out _ H5.out.2.1) (Nat.le_refl g2)
      rw [hWF]
      have HF := Lib.hid (And.intro hbF (And.intro hoth hsz2))
      clear hbF hoth hsz2 hWF y0 y1 f0 f1
      refine bodyPost_ret (v := .tuple #[.agg #[.int .i64 key, .slice Ax n cx], .slice none 0 0, .int .i64 (n : Int), .bool false]) ?_ rfl ⟨Ax, cx, rfl, ?_, HE.out.1.trans (HF.out.1.mono (by have := HE.out; omega))⟩
      · simp only [results, hres]
        go_simp
      · refine (SlT.kept H5.out.1 fun k hk _ => HF.out.2.1 k ?_).mono fun k hk => ⟨Nat.le_trans HE.out.1.size (Nat.le_trans HB.out.size (Nat.le_of_lt hk.1)), by rw [HF.out.2.2]; exact hk.2⟩
        have h1 := hk.1
        have h2 := HB.out.size
        have := HE.out
        omega
    · go_wp2_with fail
      obtain ⟨WF, hWF, z0, z1, hbF, hoth, hsz2⟩ := kboxRes (b0 := .int .i64 key) (b1 := .slice none 0 0) H5.out.2.2 (H21.out _ H5.out.2.1) (Nat.le_refl g2)
      rw [hWF]
      have HF := Lib.hid (And.intro hbF (And.intro hoth hsz2))
      clear hbF hoth hsz2 hWF y0 y1 f0 f1
      refine bodyPost_ret (v := .tuple #[.agg #[.int .i64 key, .slice none 0 0], .slice Ax n cx, .int .i64 (n : Int), .bool true]) ?_ rfl ⟨Ax, cx, rfl, ?_, HE.out.1.trans (HF.out.1.mono (by have := HE.out; omega))⟩
      · simp only [results, hres]
        go_simp
      · refine (SlT.kept H5.out.1 fun k hk _ => HF.out.2.1 k ?_).mono fun k hk => ⟨Nat.le_trans HE.out.1.size (Nat.le_trans HB.out.size (Nat.le_of_lt hk.1)), by rw [HF.out.2.2]; exact hk.2⟩
        have h1 := hk.1
        have h2 := HB.out.size
        have := HE.out
        omega

end Go.Proofs.YtfdccdjfbdmblaaDoor.pk
