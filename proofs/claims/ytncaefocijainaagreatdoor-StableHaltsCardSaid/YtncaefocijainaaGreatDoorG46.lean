import Derived.Test.YtncaefocijainaaGreatDoorG43
import Derived.Laws.StructEq
namespace Go.Proofs.YtncaefocijainaaGreatDoor.pk
open Go Go.RowKit
set_option maxRecDepth 100000
section
set_option maxHeartbeats 4000000 in
theorem CEq_any (A : Option Addr) (m c : Nat) (zs : List Int) (A' : Option Addr) (m' c' : Nat) (ss : List Int) (w : World) (h : Ints w (.slice A m c) zs) (h' : Ints w (.slice A' m' c') ss) (r : Bool) (hr : r = decide (zs = ss)) :
   Calls Tryz.prog 65 #[.slice A m c, .slice A' m' c'] w fun y w' => y = .returned (.bool r) ∧ Below w.heap.size w w' := by
 obtain ⟨hm, hmc, hcm, hat⟩ := h.at_
 obtain ⟨hm', hmc', hcm', hat'⟩ := h'.at_
 have in1 : (m : Int) ≤ 9223372036854775807 := by omega
 have in2 : (m' : Int) ≤ 9223372036854775807 := by omega
 have HH := jI (jA hm (jA hm' (jA hr (jA hat hat'))))
 clear h h' hm hm' hr hat hat' hmc hmc' hcm hcm'
 by_cases hl : m = m'
 · subst hl
   go_enter Tryz.func65, Tryz.ntmps65
   go_wp2_with fail
   go_loopw [13] (fun ii wr => ∃ (j : Nat), j ≤ m ∧ ii = .int .i64 (j : Int) ∧ Hid ((∀ k, k < j → zs.getD k 0 = ss.getD k 0) ∧ Below w.heap.size w wr)) (fun ii _ => m - (intOf ii).toNat)
   case atStart => exact ⟨0, Nat.zero_le _, rfl, jI ⟨fun k hk => by omega, Below.refl _ _⟩⟩
   case round =>
     obtain ⟨j, hj, rfl, HI⟩ := hrel
     by_cases hlt : j < m
     · have ii : (j : Int) < (m : Int) := by omega
       obtain ⟨b1, o1, rfl, hb1, hc1⟩ := HH.out.2.2.2.1 (by omega)
       obtain ⟨b2, o2, rfl, hb2, hc2⟩ := HH.out.2.2.2.2 (by omega)
       have e1 := (HI.out.2.cell (p := ⟨b1, o1 + j, none⟩) hb1).trans (hc1 j hlt)
       have e2 := (HI.out.2.cell (p := ⟨b2, o2 + j, none⟩) hb2).trans (hc2 j hlt)
       obtain ⟨x, hx⟩ : ∃ x, x = zs.getD j 0 := ⟨_, rfl⟩
       obtain ⟨y, hy⟩ : ∃ y, y = ss.getD j 0 := ⟨_, rfl⟩
       rw [← hx] at e1
       rw [← hy] at e2
       have HX := jI (jA hx hy)
       clear hx hy hc1 hc2 hb1 hb2
       by_cases ee : x = y
       · subst ee
         go_upto_region 6 with fail
         go_quiet (fail)
         go_wp2_with fail
         go_roundw
         case rel => exact ⟨j + 1, by omega, by go_num, jI ⟨fun k hk => by
           rcases Nat.lt_or_ge k j with h1 | h1
           · exact HI.out.1 k h1
           · have : k = j := by omega
             subst this
             rw [← HX.out.1, ← HX.out.2], below_drawn HI.out.2 _⟩⟩
         case measure => simp [intOf]; omega
       · have en : (x != y) = true := by simpa using ee
         go_upto_region 6 with fail
         go_quiet (fail)
         go_wp2_with fail
         go_ret
         refine ⟨?_, below_drawn HI.out.2 _⟩
         show Ending.returned (.bool false) = _
         rw [HH.out.2.2.1, decide_eq_false fun e => ee (by rw [HX.out.1, HX.out.2, e])]
     · obtain rfl : j = m := by omega
       have ii : ¬ (j : Int) < (j : Int) := by omega
       go_wp2_with fail
       go_ret
       refine ⟨?_, HI.out.2⟩
       show Ending.returned (.bool true) = _
       rw [HH.out.2.2.1, decide_eq_true]
       refine List.ext_getElem (HH.out.1.symm.trans HH.out.2.1) fun k h1 h2 => ?_
       have h3 := HI.out.1 k (by have := HH.out.1; omega)
       simpa [List.getD, h1, h2] using h3
 · have hl' : ((m : Int) != (m' : Int)) = true := by simp; omega
   have hl2 : ¬ (m : Int) = (m' : Int) := by omega
   go_enter Tryz.func65, Tryz.ntmps65
   go_wp2_with fail
   go_ret
   refine ⟨?_, Below.refl _ _⟩
   show Ending.returned (.bool false) = _
   rw [HH.out.2.2.1, decide_eq_false fun e => hl (by rw [HH.out.1, HH.out.2.1, e])]
theorem run_equalIn_five {P : Program} (w : World) (d : Nat) {t e : TypeId} (ht : P.underlying t = some (.array 5 e)) (he : P.underlying e = some (.int .i64)) (hsz : ∀ w, (sizeOf e).run P w = .ok 1 w) (x0 x1 x2 x3 x4 y0 y1 y2 y3 y4 : Int) :
   (Op.equalIn (d + 2) t (.agg #[.int .i64 x0, .int .i64 x1, .int .i64 x2, .int .i64 x3, .int .i64 x4]) (.agg #[.int .i64 y0, .int .i64 y1, .int .i64 y2, .int .i64 y3, .int .i64 y4])).run P w = .ok (x0 == y0 && (x1 == y1 && (x2 == y2 && (x3 == y3 && x4 == y4)))) w := by
 have p0 : ∀ x0 x1 x2 x3 x4 : Int, (part e #[.int .i64 x0, .int .i64 x1, .int .i64 x2, .int .i64 x3, .int .i64 x4] (0 * 1)).run P w = .ok (.int .i64 x0) w := fun x0 x1 x2 x3 x4 => by simp [part, isAgg, run_underlying he]
 have p1 : ∀ x0 x1 x2 x3 x4 : Int, (part e #[.int .i64 x0, .int .i64 x1, .int .i64 x2, .int .i64 x3, .int .i64 x4] (1 * 1)).run P w = .ok (.int .i64 x1) w := fun x0 x1 x2 x3 x4 => by simp [part, isAgg, run_underlying he]
 have p2 : ∀ x0 x1 x2 x3 x4 : Int, (part e #[.int .i64 x0, .int .i64 x1, .int .i64 x2, .int .i64 x3, .int .i64 x4] (2 * 1)).run P w = .ok (.int .i64 x2) w := fun x0 x1 x2 x3 x4 => by simp [part, isAgg, run_underlying he]
 have p3 : ∀ x0 x1 x2 x3 x4 : Int, (part e #[.int .i64 x0, .int .i64 x1, .int .i64 x2, .int .i64 x3, .int .i64 x4] (3 * 1)).run P w = .ok (.int .i64 x3) w := fun x0 x1 x2 x3 x4 => by simp [part, isAgg, run_underlying he]
 have p4 : ∀ x0 x1 x2 x3 x4 : Int, (part e #[.int .i64 x0, .int .i64 x1, .int .i64 x2, .int .i64 x3, .int .i64 x4] (4 * 1)).run P w = .ok (.int .i64 x4) w := fun x0 x1 x2 x3 x4 => by simp [part, isAgg, run_underlying he]
 have pe : ∀ u v : Int, (Op.equalIn (d + 1) e (.int .i64 u) (.int .i64 v)).run P w = .ok (u == v) w := fun u v => by
   rw [run_equalIn_int w d e .i64 .i64 _ _ he]
 rw [Op.equalIn]
 simp only [Sem.run_bind, run_underlying ht, Result.andThen_ok, hsz, Std.Legacy.Range.forIn_eq_forIn_range', Std.Legacy.Range.size, Nat.sub_zero, Nat.add_sub_cancel, Nat.div_one]
 rw [show List.range' 0 5 1 = [0, 1, 2, 3, 4] from rfl]
 simp only [List.forIn_cons, List.forIn_nil, Sem.run_bind, p0, pe, Result.andThen_ok]
 cases h0 : (x0 == y0)
 · simp
 simp only [Bool.not_true, Bool.false_eq_true, if_false, Sem.run_pure, Result.andThen_ok, Bool.true_and, p1, pe, Sem.run_bind]
 cases h1 : (x1 == y1)
 · simp
 simp only [Bool.not_true, Bool.false_eq_true, if_false, Sem.run_pure, Result.andThen_ok, Bool.true_and, p2, pe, Sem.run_bind]
 cases h2 : (x2 == y2)
 · simp
 simp only [Bool.not_true, Bool.false_eq_true, if_false, Sem.run_pure, Result.andThen_ok, Bool.true_and, p3, pe, Sem.run_bind]
 cases h3 : (x3 == y3)
 · simp
 simp only [Bool.not_true, Bool.false_eq_true, if_false, Sem.run_pure, Result.andThen_ok, Bool.true_and, p4, pe, Sem.run_bind]
 cases h4 : (x4 == y4) <;> simp
theorem five_eq (w : World) (x0 x1 x2 x3 x4 y0 y1 y2 y3 y4 : Int) : (Op.equalIn 10000 146 (.agg #[.int .i64 x0, .int .i64 x1, .int .i64 x2, .int .i64 x3, .int .i64 x4]) (.agg #[.int .i64 y0, .int .i64 y1, .int .i64 y2, .int .i64 y3, .int .i64 y4])).run Tryz.prog w = .ok (x0 == y0 && (x1 == y1 && (x2 == y2 && (x3 == y3 && x4 == y4)))) w :=
 run_equalIn_five w 9998 Tryz.underlying146 Tryz.underlying3 (fun w => Tryz.sizeOf3 w) x0 x1 x2 x3 x4 y0 y1 y2 y3 y4
set_option maxHeartbeats 16000000 in
theorem same_any (a : St) (q : Pl) (b : St) (p : Pl) (w : World) (hL : Ents w (.slice q.AL q.nL q.cL) a.log.l) (hC : Ints w (.slice q.AC q.nC q.cC) a.conf) (hS : Bys w (.slice q.AS q.nS q.cS) a.snap)
   (hL' : Ents w (.slice p.AL p.nL p.cL) b.log.l) (hC' : Ints w (.slice p.AC p.nC p.cC) b.conf) (hS' : Bys w (.slice p.AS p.nS p.cS) b.snap) :
   Calls Tryz.prog 27 #[stV a q, stV b p] w fun y w' => y = .returned (.bool (sameS a b)) ∧ Below w.heap.size w w' := by
 obtain ⟨W1, g0, g1, hW1, hg0, hg1, hb1, hq0, hq1, hsz⟩ := two_box w (.cells #[.int .i64 a.term, .int .i64 a.vote, .int .i64 a.log.base, .int .i64 a.log.term, .slice q.AL q.nL q.cL, .slice q.AC q.nC q.cC, .slice q.AS q.nS q.cS] 35) (.cells #[.int .i64 b.term, .int .i64 b.vote, .int .i64 b.log.base, .int .i64 b.log.term, .slice p.AL p.nL p.cL, .slice p.AC p.nC p.cC, .slice p.AS p.nS p.cS] 35)
 obtain ⟨x0, x1, x2, x3, x4, x5, x6⟩ := cells7 hq0
 obtain ⟨y0, y1, y2, y3, y4, y5, y6⟩ := cells7 hq1
 obtain ⟨bq, hbq⟩ : ∃ bq : Bool, bq = ((0 : Int) == 0 && (a.term == b.term && (a.vote == b.vote && (a.log.base == b.log.base && a.log.term == b.log.term)))) := ⟨_, rfl⟩
 obtain ⟨bc, hbc⟩ : ∃ bc, bc = decide (a.conf = b.conf) := ⟨_, rfl⟩
 obtain ⟨bs, hbs⟩ : ∃ bs, bs = decide (a.snap = b.snap) := ⟨_, rfl⟩
 obtain ⟨be, hbe⟩ : ∃ be, be = decide (a.log.l.map enT = b.log.l.map enT) := ⟨_, rfl⟩
 have hr : sameS a b = (bq && bc && bs && be) := by
   unfold sameS
   rw [← hbc, ← hbs, ← hbe, hbq]
   congr 3
   by_cases h1 : a.term = b.term <;> by_cases h2 : a.vote = b.vote <;> by_cases h3 : a.log.base = b.log.base <;> by_cases h4 : a.log.term = b.log.term <;> simp [h1, h2, h3, h4]
 have HQ : ∀ w, (Op.equalIn 10000 146 (.agg #[.int .i64 0, .int .i64 a.term, .int .i64 a.vote, .int .i64 a.log.base, .int .i64 a.log.term]) (.agg #[.int .i64 0, .int .i64 b.term, .int .i64 b.vote, .int .i64 b.log.base, .int .i64 b.log.term])).run Tryz.prog w = .ok bq w := fun w => by rw [five_eq, hbq]
 have RB := fun d os => below_regrown W1 d os
 have kA : ∀ d os, Calls Tryz.prog 64 #[.int .i64 0, stV a q] (Sort.grow (redrawn W1 d) os) fun e w'' => e = .returned (aheadV 0 a) ∧ ∃ p : Regrown, w'' = Sort.grow (redrawn W1 p.d) p.os := fun d os => Calls.regrown_of (ahead_any 0 a q _)
 have kB : ∀ d os, Calls Tryz.prog 64 #[.int .i64 0, stV b p] (Sort.grow (redrawn W1 d) os) fun e w'' => e = .returned (aheadV 0 b) ∧ ∃ p : Regrown, w'' = Sort.grow (redrawn W1 p.d) p.os := fun d os => Calls.regrown_of (ahead_any 0 b p _)
 have kC : ∀ d os, Calls Tryz.prog 65 #[.slice q.AC q.nC q.cC, .slice p.AC p.nC p.cC] (Sort.grow (redrawn W1 d) os) fun e w'' => e = .returned (.bool bc) ∧ ∃ p : Regrown, w'' = Sort.grow (redrawn W1 p.d) p.os :=
   fun d os => Calls.regrown_of (CEq_any _ _ _ _ _ _ _ _ _ ((hC.below hb1).below (RB d os)) ((hC'.below hb1).below (RB d os)) bc hbc)
 have kS : ∀ d os, Calls Tryz.prog 66 #[.slice q.AS q.nS q.cS, .slice p.AS p.nS p.cS] (Sort.grow (redrawn W1 d) os) fun e w'' => e = .returned (.bool bs) ∧ ∃ p : Regrown, w'' = Sort.grow (redrawn W1 p.d) p.os :=
   fun d os => Calls.regrown_of (BEq_any _ _ _ _ _ _ _ _ _ ((hS.below hb1).below (RB d os)) ((hS'.below hb1).below (RB d os)) bs hbs)
 have kE : ∀ d os, Calls Tryz.prog 67 #[.slice q.AL q.nL q.cL, .slice p.AL p.nL p.cL, .func (.func 68) #[] #[]] (Sort.grow (redrawn W1 d) os) fun e w'' => e = .returned (.bool be) ∧ ∃ p : Regrown, w'' = Sort.grow (redrawn W1 p.d) p.os :=
   fun d os => Calls.regrown_of (EqF_any _ _ _ _ _ _ _ _ _ ((hL.below hb1).below (RB d os)) ((hL'.below hb1).below (RB d os)) be hbe)
 have HW := jI (jA hW1 (jA hg0 (show g1 = w.heap.size + 1 by omega)))
 have HE := jI hb1
 have HR := jI hr
 replace x0 := fun d os => cell_regrown x0 d os
 replace x1 := fun d os => cell_regrown x1 d os
 replace x2 := fun d os => cell_regrown x2 d os
 replace x3 := fun d os => cell_regrown x3 d os
 replace x4 := fun d os => cell_regrown x4 d os
 replace x5 := fun d os => cell_regrown x5 d os
 replace x6 := fun d os => cell_regrown x6 d os
 replace y0 := fun d os => cell_regrown y0 d os
 replace y1 := fun d os => cell_regrown y1 d os
 replace y2 := fun d os => cell_regrown y2 d os
 replace y3 := fun d os => cell_regrown y3 d os
 replace y4 := fun d os => cell_regrown y4 d os
 replace y5 := fun d os => cell_regrown y5 d os
 replace y6 := fun d os => cell_regrown y6 d os
 unfold stV aheadV at kA kB
 clear hL hC hS hL' hC' hS' hW1 hg0 hg1 hb1 hq0 hq1 hsz hbq hbc hbs hbe hr RB
 unfold stV
 rw [HR.out]
 cases bq with
 | false =>
   clear HR kC kS kE
   go_enter Tryz.func27, Tryz.ntmps27
   go_upto_region 1 with fail
   rw [← HW.out.1, ← HW.out.2.2, ← HW.out.2.1]
   refine wp_region_quiet_below (by kernel_rfl) (by kernel_rfl) ?_
   go_big_quiet_step (fail)
   go_big_quiet_step (exact kA _ _)
   go_big_quiet_step (fail)
   go_big_quiet_step (exact kB _ _)
   go_big_quiet_step (fail)
   go_big_quiet_step (fail)
   go_big_quiet_step (fail)
   go_big_quiet_step (fail)
   go_big_quiet_step (fail)
   go_big_quiet_step (fail)
   go_big_quiet_step (fail)
   go_big_quiet_step (fail)
   go_big_quiet_step (fail)
   go_big_quiet_step (fail)
   go_big_quiet_step (fail)
   go_big_quiet_step (fail)
   go_big_quiet_step (fail)
   go_big_quiet_step (fail)
   go_big_quiet_step (fail)
   go_big_quiet_step (fail)
   go_big_quiet_step (fail)
   go_big_quiet_step (fail)
   go_big_quiet_step (fail)
   go_big_quiet_step (fail)
   go_big_quiet_step (fail)
   go_big_quiet_step (fail)
   go_big_quiet_step (fail)
   go_big_quiet_step (fail)
   go_big_quiet_step (fail)
   refine wpQuiet_nil ?_
   rintro W ⟨⟨dr, osr⟩, rfl⟩
   have hb9 := HE.out.trans ((below_regrown W1 dr osr).mono HE.out.size)
   go_wp2_with fail
   go_ret
   exact ⟨rfl, hb9⟩
 | true =>
 cases bc with
 | false =>
   clear HR kS kE
   go_enter Tryz.func27, Tryz.ntmps27
   go_upto_region 1 with fail
   rw [← HW.out.1, ← HW.out.2.2, ← HW.out.2.1]
   refine wp_region_quiet_below (by kernel_rfl) (by kernel_rfl) ?_
   go_big_quiet_step (fail)
   go_big_quiet_step (exact kA _ _)
   go_big_quiet_step (fail)
   go_big_quiet_step (exact kB _ _)
   go_big_quiet_step (fail)
   go_big_quiet_step (fail)
   go_big_quiet_step (fail)
   go_big_quiet_step (fail)
   go_big_quiet_step (fail)
   go_big_quiet_step (fail)
   go_big_quiet_step (exact kC _ _)
   go_big_quiet_step (fail)
   go_big_quiet_step (fail)
   go_big_quiet_step (fail)
   go_big_quiet_step (fail)
   go_big_quiet_step (fail)
   go_big_quiet_step (fail)
   go_big_quiet_step (fail)
   go_big_quiet_step (fail)
   go_big_quiet_step (fail)
   go_big_quiet_step (fail)
   go_big_quiet_step (fail)
   go_big_quiet_step (fail)
   go_big_quiet_step (fail)
   go_big_quiet_step (fail)
   go_big_quiet_step (fail)
   go_big_quiet_step (fail)
   go_big_quiet_step (fail)
   go_big_quiet_step (fail)
   refine wpQuiet_nil ?_
   rintro W ⟨⟨dr, osr⟩, rfl⟩
   have hb9 := HE.out.trans ((below_regrown W1 dr osr).mono HE.out.size)
   go_wp2_with fail
   go_ret
   exact ⟨rfl, hb9⟩
 | true =>
 cases bs with
 | false =>
   clear HR kE
   go_enter Tryz.func27, Tryz.ntmps27
   go_upto_region 1 with fail
   rw [← HW.out.1, ← HW.out.2.2, ← HW.out.2.1]
   refine wp_region_quiet_below (by kernel_rfl) (by kernel_rfl) ?_
   go_big_quiet_step (fail)
   go_big_quiet_step (exact kA _ _)
   go_big_quiet_step (fail)
   go_big_quiet_step (exact kB _ _)
   go_big_quiet_step (fail)
   go_big_quiet_step (fail)
   go_big_quiet_step (fail)
   go_big_quiet_step (fail)
   go_big_quiet_step (fail)
   go_big_quiet_step (fail)
   go_big_quiet_step (exact kC _ _)
   go_big_quiet_step (fail)
   go_big_quiet_step (fail)
   go_big_quiet_step (fail)
   go_big_quiet_step (fail)
   go_big_quiet_step (fail)
   go_big_quiet_step (fail)
   go_big_quiet_step (exact kS _ _)
   go_big_quiet_step (fail)
   go_big_quiet_step (fail)
   go_big_quiet_step (fail)
   go_big_quiet_step (fail)
   go_big_quiet_step (fail)
   go_big_quiet_step (fail)
   go_big_quiet_step (fail)
   go_big_quiet_step (fail)
   go_big_quiet_step (fail)
   go_big_quiet_step (fail)
   go_big_quiet_step (fail)
   refine wpQuiet_nil ?_
   rintro W ⟨⟨dr, osr⟩, rfl⟩
   have hb9 := HE.out.trans ((below_regrown W1 dr osr).mono HE.out.size)
   go_wp2_with fail
   go_ret
   exact ⟨rfl, hb9⟩
 | true =>
   clear HR
   go_enter Tryz.func27, Tryz.ntmps27
   go_upto_region 1 with fail
   rw [← HW.out.1, ← HW.out.2.2, ← HW.out.2.1]
   refine wp_region_quiet_below (by kernel_rfl) (by kernel_rfl) ?_
   go_big_quiet_step (fail)
   go_big_quiet_step (exact kA _ _)
   go_big_quiet_step (fail)
   go_big_quiet_step (exact kB _ _)
   go_big_quiet_step (fail)
   go_big_quiet_step (fail)
   go_big_quiet_step (fail)
   go_big_quiet_step (fail)
   go_big_quiet_step (fail)
   go_big_quiet_step (fail)
   go_big_quiet_step (exact kC _ _)
   go_big_quiet_step (fail)
   go_big_quiet_step (fail)
   go_big_quiet_step (fail)
   go_big_quiet_step (fail)
   go_big_quiet_step (fail)
   go_big_quiet_step (fail)
   go_big_quiet_step (exact kS _ _)
   go_big_quiet_step (fail)
   go_big_quiet_step (fail)
   go_big_quiet_step (fail)
   go_big_quiet_step (fail)
   go_big_quiet_step (fail)
   go_big_quiet_step (fail)
   go_big_quiet_step (fail)
   go_big_quiet_step (fail)
   go_big_quiet_step (exact kE _ _)
   go_big_quiet_step (fail)
   go_big_quiet_step (fail)
   refine wpQuiet_nil ?_
   rintro W ⟨⟨dr, osr⟩, rfl⟩
   have hb9 := HE.out.trans ((below_regrown W1 dr osr).mono HE.out.size)
   go_wp2_with fail
   go_ret
   exact ⟨rfl, hb9⟩
end
end Go.Proofs.YtncaefocijainaaGreatDoor.pk
