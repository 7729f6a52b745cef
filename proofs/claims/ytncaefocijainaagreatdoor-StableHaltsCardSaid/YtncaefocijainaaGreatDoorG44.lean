import Derived.Test.YtncaefocijainaaGreatDoorG42
import Derived.Test.YtncaefocijainaaGreatDoorG43
import Derived.Laws.ResultCell
import Derived.Test.YtncaefocijainaaGreatDoorG36
namespace Go.Proofs.YtncaefocijainaaGreatDoor.pk
open Go Go.RowKit
set_option maxRecDepth 100000
section
def corZ : Array Value := #[.int .i64 0, .int .i64 0, .int .i64 0, .int .i64 0, .slice none 0 0, .slice none 0 0, .slice none 0 0, .int .i64 0, .int .i64 0, .int .i64 0, .int .i64 0, .int .i64 0, .int .i64 0, .int .i64 0, .int .i64 0, .slice none 0 0, .slice none 0 0, .int .i64 0, .slice none 0 0]
theorem corZ_one : corZ.all (·.oneCell') = true := by simp [corZ, Value.oneCell']
theorem results_cell_row_tmp {P : Program} {fn : Func} {p u : Tmp} {ty : TypeId} (h : fn.results = #[.cell p ty, .tmp u]) (tmps : Array Value) (w : World) (g : Nat) (t : TypeId) (cs : Array Value) (fr : Nat × Nat) (d : TypeDesc) (v : Value)
   (hp : tmps.getD p undef = .pointer (some ⟨g, 0, none⟩)) (hv : tmps.getD u undef = v) (hg : w.heap[g]? = some (.cells cs t fr))
   (hu : P.underlying ty = some d) (hd : (match d with | .struct _ | .array _ _ => true | _ => false) = true) (hi : (P.info? ty).map (·.size) = some cs.size) :
   (results fn tmps).run P w = .ok (.tuple #[.agg cs, v]) w := by
 rw [results_cell_tmp h, hp, hv]
 simp [asAddr, Result.andThen, run_loadVar_row w g t ty cs fr d hg hu hd hi]
set_option maxHeartbeats 32000000 in
theorem RNew_any (s : St) (q : Pl) (w : World) (hL : Ents w (.slice q.AL q.nL q.cL) s.log.l) (hb : inI s.log.base) (ht : inI s.log.term) (hC : Ints w (.slice q.AC q.nC q.cC) s.conf) (bm : Bool) (hbm : bm = mayS s) :
   Calls Tryz.prog 45 #[.int .i64 1, .int .i64 2, stV s q, .int .i64 0] w fun y w' => y = .returned (.tuple #[.agg (cond bm (corC s q 2) corZ), .int .i64 (cond bm 0 1)]) ∧ Below w.heap.size w w' := by
 obtain ⟨W1, g0, g1, hW1, hg0, hg1, hb1, hq0, hq1, hsz⟩ := two_box w (.cells #[.int .i64 s.term, .int .i64 s.vote, .int .i64 s.log.base, .int .i64 s.log.term, .slice q.AL q.nL q.cL, .slice q.AC q.nC q.cC, .slice q.AS q.nS q.cS] 50) (.cells corZ 101)
 have HQ := jI (jA hq0 hq1)
 obtain ⟨x0, x1, x2, x3, x4, x5, x6⟩ := cells7 hq0
 obtain ⟨r, hr⟩ : ∃ r, r = lastE s.log := ⟨_, rfl⟩
 obtain ⟨r1, r2⟩ := r
 have CL := jI (Last_any s.log _ _ _ W1 (hL.below hb1) hb ht (r1, r2) hr)
 obtain ⟨e1, he1⟩ : ∃ e, e = mayE s.log := ⟨_, rfl⟩
 obtain ⟨e2, he2⟩ : ∃ e, e = mayC s.conf := ⟨_, rfl⟩
 obtain ⟨e3, he3⟩ : ∃ e, e = !s.log.l.any misE := ⟨_, rfl⟩
 have hfm : mayS s = (e1 && e2 && e3 && decide (r2 ≤ s.term ∧ s.term ≤ 1099511627776 ∧ 0 ≤ s.vote ∧ s.vote ≤ 64)) := by
   unfold mayS
   rw [← he1, ← he2, ← he3, ← hr]
 have kM := jI fun W (hW : Below W1.heap.size W1 W) => May_any s.log _ _ _ W ((hL.below hb1).below hW) hb ht e1 he1
 have kC := jI fun W (hW : Below W1.heap.size W1 W) => MayC_any _ _ _ s.conf W ((hC.below hb1).below hW) e2 he2
 have kR := jI fun W (hW : Below W1.heap.size W1 W) => readable_any _ _ _ s.log.l W ((hL.below hb1).below hW) e3 he3
 rw [hfm] at hbm
 have HF := jI hbm
 have HW := jI (jA hW1 (jA hg0 (show g1 = w.heap.size + 1 by omega)))
 have HE := jI hb1
 clear hL hb ht hC hbm hfm hW1 hg0 hg1 hb1 hq0 hq1 hsz hr he1 he2 he3
 unfold stV
 go_enter Tryz.func45, Tryz.ntmps45
 go_upto_region 1 with fail
 unfold corZ at HW
 rw [← HW.out.1, ← HW.out.2.2, ← HW.out.2.1]
 go_upto_region 2 with (go_at_call 84; go_must (refine CL.out.mono ?_; rintro y w2 ⟨rfl, hb⟩; have H2 := jI hb; clear hb))
 have HX := jI (jA ((H2.out.block g0 (obj_lt HQ.out.1)).trans HQ.out.1) ((H2.out.block g1 (obj_lt HQ.out.2)).trans HQ.out.2))
 clear x0 x1 x2 x3 x4 x5 x6
 obtain ⟨x0, x1, x2, x3, x4, x5, x6⟩ := cells7 HX.out.1
 have HC := jI fun W (hW : Below w2.heap.size w2 W) => cells7 ((hW.block g0 (obj_lt HX.out.1)).trans HX.out.1)
 have kM := jI (kM.out w2 H2.out)
 have kC := jI fun W (hW : Below w2.heap.size w2 W) => kC.out W (H2.out.trans (hW.mono H2.out.size))
 have kR := jI fun W (hW : Below w2.heap.size w2 W) => kR.out W (H2.out.trans (hW.mono H2.out.size))
 clear CL
 cases e1 with
 | false =>
   have hf1 : bm = false := by rw [HF.out]; simp
   subst hf1
   clear kC kR
   go_upto_region 3 with (first
     | (go_at_call 85; go_must (refine kM.out.mono ?_; rintro y w3 ⟨rfl, hb⟩; have H3 := jI hb; clear x0 x1 x2 x3 x4 x5 x6 hb; obtain ⟨x0, x1, x2, x3, x4, x5, x6⟩ := HC.out w3 H3.out))
     | (go_at_call 86; go_must (refine (kC.out w3 H3.out).mono ?_; rintro y w4 ⟨rfl, hb⟩; have H4 := jI (H3.out.trans (hb.mono H3.out.size)); clear x0 x1 x2 x3 x4 x5 x6 hb; obtain ⟨x0, x1, x2, x3, x4, x5, x6⟩ := HC.out w4 H4.out))
     | (go_at_call 87; go_must (refine (kR.out w4 H4.out).mono ?_; rintro y w5 ⟨rfl, hb⟩; have H5 := jI (H4.out.trans (hb.mono H4.out.size)); clear x0 x1 x2 x3 x4 x5 x6 hb; obtain ⟨x0, x1, x2, x3, x4, x5, x6⟩ := HC.out w5 H5.out)))
   have HZ := jI (jA ((H3.out.block g0 (obj_lt HX.out.1)).trans HX.out.1) ((H3.out.block g1 (obj_lt HX.out.2)).trans HX.out.2))
   have H9 := jI (HE.out.trans ((H2.out.trans (H3.out.mono H2.out.size)).mono HE.out.size))
   have hz := HZ.out.2
   go_wp2_with (refine wpList_store_row rfl 101 _ _ rfl g1 corZ rfl rfl 101 _ hz rfl rfl corZ_one ?_)
   have hr := results_cell_row_tmp (P := Tryz.prog) (fn := Tryz.f45) (p := 8) (u := 9) (ty := 101) rfl (g := g1) (t := 101) (cs := corZ) (fr := (0, 0)) (w := w3.setRow g1 corZ) (d := _) (v := .int .i64 1) (hg := setRow_heap w3 g1 _ _ _ _ hz) (hu := rfl) (hd := rfl) (hi := rfl)
   refine bodyPost_ret_by (hr _ ?_ ?_) rfl ⟨rfl, below_sr H9.out (by have := HW.out.2.2; omega) _⟩
   · rfl
   · rfl
 | true =>
 cases e2 with
 | false =>
   have hf1 : bm = false := by rw [HF.out]; simp
   subst hf1
   clear kR
   go_upto_region 3 with (first
     | (go_at_call 85; go_must (refine kM.out.mono ?_; rintro y w3 ⟨rfl, hb⟩; have H3 := jI hb; clear x0 x1 x2 x3 x4 x5 x6 hb; obtain ⟨x0, x1, x2, x3, x4, x5, x6⟩ := HC.out w3 H3.out))
     | (go_at_call 86; go_must (refine (kC.out w3 H3.out).mono ?_; rintro y w4 ⟨rfl, hb⟩; have H4 := jI (H3.out.trans (hb.mono H3.out.size)); clear x0 x1 x2 x3 x4 x5 x6 hb; obtain ⟨x0, x1, x2, x3, x4, x5, x6⟩ := HC.out w4 H4.out))
     | (go_at_call 87; go_must (refine (kR.out w4 H4.out).mono ?_; rintro y w5 ⟨rfl, hb⟩; have H5 := jI (H4.out.trans (hb.mono H4.out.size)); clear x0 x1 x2 x3 x4 x5 x6 hb; obtain ⟨x0, x1, x2, x3, x4, x5, x6⟩ := HC.out w5 H5.out)))
   have HZ := jI (jA ((H4.out.block g0 (obj_lt HX.out.1)).trans HX.out.1) ((H4.out.block g1 (obj_lt HX.out.2)).trans HX.out.2))
   have H9 := jI (HE.out.trans ((H2.out.trans (H4.out.mono H2.out.size)).mono HE.out.size))
   have hz := HZ.out.2
   go_wp2_with (refine wpList_store_row rfl 101 _ _ rfl g1 corZ rfl rfl 101 _ hz rfl rfl corZ_one ?_)
   have hr := results_cell_row_tmp (P := Tryz.prog) (fn := Tryz.f45) (p := 8) (u := 9) (ty := 101) rfl (g := g1) (t := 101) (cs := corZ) (fr := (0, 0)) (w := w4.setRow g1 corZ) (d := _) (v := .int .i64 1) (hg := setRow_heap w4 g1 _ _ _ _ hz) (hu := rfl) (hd := rfl) (hi := rfl)
   refine bodyPost_ret_by (hr _ ?_ ?_) rfl ⟨rfl, below_sr H9.out (by have := HW.out.2.2; omega) _⟩
   · rfl
   · rfl
 | true =>
 cases e3 with
 | false =>
   have hf1 : bm = false := by rw [HF.out]; simp
   subst hf1
   go_upto_region 3 with (first
     | (go_at_call 85; go_must (refine kM.out.mono ?_; rintro y w3 ⟨rfl, hb⟩; have H3 := jI hb; clear x0 x1 x2 x3 x4 x5 x6 hb; obtain ⟨x0, x1, x2, x3, x4, x5, x6⟩ := HC.out w3 H3.out))
     | (go_at_call 86; go_must (refine (kC.out w3 H3.out).mono ?_; rintro y w4 ⟨rfl, hb⟩; have H4 := jI (H3.out.trans (hb.mono H3.out.size)); clear x0 x1 x2 x3 x4 x5 x6 hb; obtain ⟨x0, x1, x2, x3, x4, x5, x6⟩ := HC.out w4 H4.out))
     | (go_at_call 87; go_must (refine (kR.out w4 H4.out).mono ?_; rintro y w5 ⟨rfl, hb⟩; have H5 := jI (H4.out.trans (hb.mono H4.out.size)); clear x0 x1 x2 x3 x4 x5 x6 hb; obtain ⟨x0, x1, x2, x3, x4, x5, x6⟩ := HC.out w5 H5.out)))
   have HZ := jI (jA ((H5.out.block g0 (obj_lt HX.out.1)).trans HX.out.1) ((H5.out.block g1 (obj_lt HX.out.2)).trans HX.out.2))
   have H9 := jI (HE.out.trans ((H2.out.trans (H5.out.mono H2.out.size)).mono HE.out.size))
   have hz := HZ.out.2
   go_wp2_with (refine wpList_store_row rfl 101 _ _ rfl g1 corZ rfl rfl 101 _ hz rfl rfl corZ_one ?_)
   have hr := results_cell_row_tmp (P := Tryz.prog) (fn := Tryz.f45) (p := 8) (u := 9) (ty := 101) rfl (g := g1) (t := 101) (cs := corZ) (fr := (0, 0)) (w := w5.setRow g1 corZ) (d := _) (v := .int .i64 1) (hg := setRow_heap w5 g1 _ _ _ _ hz) (hu := rfl) (hd := rfl) (hi := rfl)
   refine bodyPost_ret_by (hr _ ?_ ?_) rfl ⟨rfl, below_sr H9.out (by have := HW.out.2.2; omega) _⟩
   · rfl
   · rfl
 | true =>
 by_cases c1 : s.term < r2
 · have hf1 : bm = false := by rw [HF.out]; rw [decide_eq_false (by omega)]; rfl
   subst hf1
   go_upto_region 3 with (first
     | (go_at_call 85; go_must (refine kM.out.mono ?_; rintro y w3 ⟨rfl, hb⟩; have H3 := jI hb; clear x0 x1 x2 x3 x4 x5 x6 hb; obtain ⟨x0, x1, x2, x3, x4, x5, x6⟩ := HC.out w3 H3.out))
     | (go_at_call 86; go_must (refine (kC.out w3 H3.out).mono ?_; rintro y w4 ⟨rfl, hb⟩; have H4 := jI (H3.out.trans (hb.mono H3.out.size)); clear x0 x1 x2 x3 x4 x5 x6 hb; obtain ⟨x0, x1, x2, x3, x4, x5, x6⟩ := HC.out w4 H4.out))
     | (go_at_call 87; go_must (refine (kR.out w4 H4.out).mono ?_; rintro y w5 ⟨rfl, hb⟩; have H5 := jI (H4.out.trans (hb.mono H4.out.size)); clear x0 x1 x2 x3 x4 x5 x6 hb; obtain ⟨x0, x1, x2, x3, x4, x5, x6⟩ := HC.out w5 H5.out)))
   have HZ := jI (jA ((H5.out.block g0 (obj_lt HX.out.1)).trans HX.out.1) ((H5.out.block g1 (obj_lt HX.out.2)).trans HX.out.2))
   have H9 := jI (HE.out.trans ((H2.out.trans (H5.out.mono H2.out.size)).mono HE.out.size))
   have hz := HZ.out.2
   go_wp2_with (refine wpList_store_row rfl 101 _ _ rfl g1 corZ rfl rfl 101 _ hz rfl rfl corZ_one ?_)
   have hr := results_cell_row_tmp (P := Tryz.prog) (fn := Tryz.f45) (p := 8) (u := 9) (ty := 101) rfl (g := g1) (t := 101) (cs := corZ) (fr := (0, 0)) (w := w5.setRow g1 corZ) (d := _) (v := .int .i64 1) (hg := setRow_heap w5 g1 _ _ _ _ hz) (hu := rfl) (hd := rfl) (hi := rfl)
   refine bodyPost_ret_by (hr _ ?_ ?_) rfl ⟨rfl, below_sr H9.out (by have := HW.out.2.2; omega) _⟩
   · rfl
   · rfl
 by_cases c2 : 1099511627776 < s.term
 · have hf1 : bm = false := by rw [HF.out]; rw [decide_eq_false (by omega)]; rfl
   subst hf1
   go_upto_region 3 with (first
     | (go_at_call 85; go_must (refine kM.out.mono ?_; rintro y w3 ⟨rfl, hb⟩; have H3 := jI hb; clear x0 x1 x2 x3 x4 x5 x6 hb; obtain ⟨x0, x1, x2, x3, x4, x5, x6⟩ := HC.out w3 H3.out))
     | (go_at_call 86; go_must (refine (kC.out w3 H3.out).mono ?_; rintro y w4 ⟨rfl, hb⟩; have H4 := jI (H3.out.trans (hb.mono H3.out.size)); clear x0 x1 x2 x3 x4 x5 x6 hb; obtain ⟨x0, x1, x2, x3, x4, x5, x6⟩ := HC.out w4 H4.out))
     | (go_at_call 87; go_must (refine (kR.out w4 H4.out).mono ?_; rintro y w5 ⟨rfl, hb⟩; have H5 := jI (H4.out.trans (hb.mono H4.out.size)); clear x0 x1 x2 x3 x4 x5 x6 hb; obtain ⟨x0, x1, x2, x3, x4, x5, x6⟩ := HC.out w5 H5.out)))
   have HZ := jI (jA ((H5.out.block g0 (obj_lt HX.out.1)).trans HX.out.1) ((H5.out.block g1 (obj_lt HX.out.2)).trans HX.out.2))
   have H9 := jI (HE.out.trans ((H2.out.trans (H5.out.mono H2.out.size)).mono HE.out.size))
   have hz := HZ.out.2
   go_wp2_with (refine wpList_store_row rfl 101 _ _ rfl g1 corZ rfl rfl 101 _ hz rfl rfl corZ_one ?_)
   have hr := results_cell_row_tmp (P := Tryz.prog) (fn := Tryz.f45) (p := 8) (u := 9) (ty := 101) rfl (g := g1) (t := 101) (cs := corZ) (fr := (0, 0)) (w := w5.setRow g1 corZ) (d := _) (v := .int .i64 1) (hg := setRow_heap w5 g1 _ _ _ _ hz) (hu := rfl) (hd := rfl) (hi := rfl)
   refine bodyPost_ret_by (hr _ ?_ ?_) rfl ⟨rfl, below_sr H9.out (by have := HW.out.2.2; omega) _⟩
   · rfl
   · rfl
 by_cases c3 : s.vote < 0
 · have hf1 : bm = false := by rw [HF.out]; rw [decide_eq_false (by omega)]; rfl
   subst hf1
   go_upto_region 3 with (first
     | (go_at_call 85; go_must (refine kM.out.mono ?_; rintro y w3 ⟨rfl, hb⟩; have H3 := jI hb; clear x0 x1 x2 x3 x4 x5 x6 hb; obtain ⟨x0, x1, x2, x3, x4, x5, x6⟩ := HC.out w3 H3.out))
     | (go_at_call 86; go_must (refine (kC.out w3 H3.out).mono ?_; rintro y w4 ⟨rfl, hb⟩; have H4 := jI (H3.out.trans (hb.mono H3.out.size)); clear x0 x1 x2 x3 x4 x5 x6 hb; obtain ⟨x0, x1, x2, x3, x4, x5, x6⟩ := HC.out w4 H4.out))
     | (go_at_call 87; go_must (refine (kR.out w4 H4.out).mono ?_; rintro y w5 ⟨rfl, hb⟩; have H5 := jI (H4.out.trans (hb.mono H4.out.size)); clear x0 x1 x2 x3 x4 x5 x6 hb; obtain ⟨x0, x1, x2, x3, x4, x5, x6⟩ := HC.out w5 H5.out)))
   have HZ := jI (jA ((H5.out.block g0 (obj_lt HX.out.1)).trans HX.out.1) ((H5.out.block g1 (obj_lt HX.out.2)).trans HX.out.2))
   have H9 := jI (HE.out.trans ((H2.out.trans (H5.out.mono H2.out.size)).mono HE.out.size))
   have hz := HZ.out.2
   go_wp2_with (refine wpList_store_row rfl 101 _ _ rfl g1 corZ rfl rfl 101 _ hz rfl rfl corZ_one ?_)
   have hr := results_cell_row_tmp (P := Tryz.prog) (fn := Tryz.f45) (p := 8) (u := 9) (ty := 101) rfl (g := g1) (t := 101) (cs := corZ) (fr := (0, 0)) (w := w5.setRow g1 corZ) (d := _) (v := .int .i64 1) (hg := setRow_heap w5 g1 _ _ _ _ hz) (hu := rfl) (hd := rfl) (hi := rfl)
   refine bodyPost_ret_by (hr _ ?_ ?_) rfl ⟨rfl, below_sr H9.out (by have := HW.out.2.2; omega) _⟩
   · rfl
   · rfl
 by_cases c4 : 64 < s.vote
 · have hf1 : bm = false := by rw [HF.out]; rw [decide_eq_false (by omega)]; rfl
   subst hf1
   go_upto_region 3 with (first
     | (go_at_call 85; go_must (refine kM.out.mono ?_; rintro y w3 ⟨rfl, hb⟩; have H3 := jI hb; clear x0 x1 x2 x3 x4 x5 x6 hb; obtain ⟨x0, x1, x2, x3, x4, x5, x6⟩ := HC.out w3 H3.out))
     | (go_at_call 86; go_must (refine (kC.out w3 H3.out).mono ?_; rintro y w4 ⟨rfl, hb⟩; have H4 := jI (H3.out.trans (hb.mono H3.out.size)); clear x0 x1 x2 x3 x4 x5 x6 hb; obtain ⟨x0, x1, x2, x3, x4, x5, x6⟩ := HC.out w4 H4.out))
     | (go_at_call 87; go_must (refine (kR.out w4 H4.out).mono ?_; rintro y w5 ⟨rfl, hb⟩; have H5 := jI (H4.out.trans (hb.mono H4.out.size)); clear x0 x1 x2 x3 x4 x5 x6 hb; obtain ⟨x0, x1, x2, x3, x4, x5, x6⟩ := HC.out w5 H5.out)))
   have HZ := jI (jA ((H5.out.block g0 (obj_lt HX.out.1)).trans HX.out.1) ((H5.out.block g1 (obj_lt HX.out.2)).trans HX.out.2))
   have H9 := jI (HE.out.trans ((H2.out.trans (H5.out.mono H2.out.size)).mono HE.out.size))
   have hz := HZ.out.2
   go_wp2_with (refine wpList_store_row rfl 101 _ _ rfl g1 corZ rfl rfl 101 _ hz rfl rfl corZ_one ?_)
   have hr := results_cell_row_tmp (P := Tryz.prog) (fn := Tryz.f45) (p := 8) (u := 9) (ty := 101) rfl (g := g1) (t := 101) (cs := corZ) (fr := (0, 0)) (w := w5.setRow g1 corZ) (d := _) (v := .int .i64 1) (hg := setRow_heap w5 g1 _ _ _ _ hz) (hu := rfl) (hd := rfl) (hi := rfl)
   refine bodyPost_ret_by (hr _ ?_ ?_) rfl ⟨rfl, below_sr H9.out (by have := HW.out.2.2; omega) _⟩
   · rfl
   · rfl
 have hf0 : bm = true := by rw [HF.out, decide_eq_true ⟨by omega, by omega, by omega, by omega⟩]; rfl
 subst hf0
 go_upto_region 4 with (first
   | (go_at_call 85; go_must (refine kM.out.mono ?_; rintro y w3 ⟨rfl, hb⟩; have H3 := jI hb; clear x0 x1 x2 x3 x4 x5 x6 hb; obtain ⟨x0, x1, x2, x3, x4, x5, x6⟩ := HC.out w3 H3.out))
   | (go_at_call 86; go_must (refine (kC.out w3 H3.out).mono ?_; rintro y w4 ⟨rfl, hb⟩; have H4 := jI (H3.out.trans (hb.mono H3.out.size)); clear x0 x1 x2 x3 x4 x5 x6 hb; obtain ⟨x0, x1, x2, x3, x4, x5, x6⟩ := HC.out w4 H4.out))
   | (go_at_call 87; go_must (refine (kR.out w4 H4.out).mono ?_; rintro y w5 ⟨rfl, hb⟩; have H5 := jI (H4.out.trans (hb.mono H4.out.size)); clear x0 x1 x2 x3 x4 x5 x6 hb; obtain ⟨x0, x1, x2, x3, x4, x5, x6⟩ := HC.out w5 H5.out)))
 have HZ := jI (jA ((H5.out.block g0 (obj_lt HX.out.1)).trans HX.out.1) ((H5.out.block g1 (obj_lt HX.out.2)).trans HX.out.2))
 have H9 := jI (HE.out.trans ((H2.out.trans (H5.out.mono H2.out.size)).mono HE.out.size))
 have hz0 := HZ.out.1
 have x2 : w5.cell? ⟨g0, 2, none⟩ = some (.int .i64 s.log.base) := by rw [cell_of_row w5 g0 2 _ _ (0, 0) hz0]; rfl
 have CD := draws_any s q w5
 unfold corC at CD
 have CD := jI CD
 go_wp2_with (first
   | (refine wpList_load_row rfl 50 _ rfl g0 rfl 50 _ (0, 0) _ hz0 rfl rfl rfl ?_)
   | (refine wpList_store_row rfl 101 _ _ rfl g1 (corC s q 2) rfl rfl 101 _ hz9 rfl rfl corC_one ?_)
   | (go_at_call 88; go_must (refine CD.out.mono ?_; rintro y w10 ⟨rfl, hb⟩; have hz9 := (hb.block g1 (obj_lt HZ.out.2)).trans HZ.out.2; have H10 := jI (H9.out.trans (hb.mono H9.out.size)); clear hb)))
 have hr := results_cell_row_tmp (P := Tryz.prog) (fn := Tryz.f45) (p := 8) (u := 9) (ty := 101) rfl (g := g1) (t := 101) (cs := corC s q 2) (fr := (0, 0)) (w := w10.setRow g1 (corC s q 2)) (d := _) (v := .int .i64 0) (hg := setRow_heap w10 g1 _ _ _ _ hz9) (hu := rfl) (hd := rfl) (hi := rfl)
 refine bodyPost_ret_by (hr _ ?_ ?_) rfl ⟨rfl, below_sr H10.out (by have := HW.out.2.2; omega) _⟩
 · rfl
 · rfl
end
section
def onI (o : Bool) : Int := if o = true then 1 else 0
def kpC (k : Km) (q : Pl) (Q : Bool → Nat) : Array Value :=
 #[.int .i64 ((k.T false).at_ : Int), .int .i64 ((k.T false).len : Int), .int .i64 ((k.T true).at_ : Int), .int .i64 ((k.T true).len : Int), .pointer (some ⟨Q false, 0, none⟩), .pointer (some ⟨Q true, 0, none⟩), .int .i64 (onI k.on), .int .i64 (k.saves : Int),
   .int .i64 k.kept.term, .int .i64 k.kept.vote, .int .i64 k.kept.log.base, .int .i64 k.kept.log.term, .slice q.AL q.nL q.cL, .slice q.AC q.nC q.cC, .slice q.AS q.nS q.cS, er k.dead]
def KS (S : Nat → Prop) (b : Nat) (Q : Bool → Nat) : Nat → Prop := fun x => S x ∨ x = Q false ∨ x = Q true ∨ x = b
structure KB (C : ConD) (w : World) (S : Nat → Prop) (b : Nat) (Q : Bool → Nat) (p : Nat) (d : Dk) (k : Km) (q : Pl) : Prop where
 t : ∀ o, Tp C w S (Q o) p d (k.T o)
 ne : Q false ≠ Q true
 box : w.heap[b]? = some (.cells (kpC k q Q) 75 (0, 0))
 ob : ¬ S b ∧ b ≠ Q false ∧ b ≠ Q true
 rows : Rws w (Av w (KS S b Q)) k.kept q
 ok : (∀ e ∈ k.kept.log.l, e.ok) ∧ (∀ z ∈ k.kept.conf, inI z)
section
variable {C : ConD} {w w' : World} {S S' : Nat → Prop} {b p : Nat} {Q : Bool → Nat} {d d' : Dk} {k k' : Km} {q q' : Pl}
theorem KB.lt (h : KB C w S b Q p d k q) : b < w.heap.size := obj_lt h.box
theorem KB.nq (h : KB C w S b Q p d k q) (o : Bool) : b ≠ Q o := by cases o; exact h.ob.2.1; exact h.ob.2.2
theorem KB.neo (h : KB C w S b Q p d k q) (o : Bool) : Q (!o) ≠ Q o := by cases o; exact fun e => h.ne e.symm; exact h.ne
theorem KB.foot (h : KB C w S b Q p d k q) : ∀ x, KS S b Q x → x < w.heap.size := fun x hx => by
 rcases hx with hx | hx | hx | hx
 · exact C.foot (h.t false).dk x hx
 · rw [hx]; exact (h.t false).box.lt
 · rw [hx]; exact (h.t true).box.lt
 · rw [hx]; exact h.lt
theorem KB.more (h : KB C w S b Q p d k q) (hb : Below w.heap.size w w') : KB C w' S b Q p d k q :=
 ⟨fun o => (h.t o).more hb, h.ne, (hb.block b h.lt).trans h.box, h.ob, h.rows.move (fun x _ hx => hb.block x hx) fun x hx => ⟨Nat.lt_of_lt_of_le hx.1 hb.size, hx.2⟩, h.ok⟩
theorem KB.cell (h : KB C w S b Q p d k q) (i : Nat) : w.cell? ⟨b, i, none⟩ = (kpC k q Q)[i]? := by rw [cell_of_row w b i _ _ (0, 0) h.box]
theorem KS.sq {o : Bool} {x : Nat} (h : SQ S (Q o) x) : KS S b Q x := by
 rcases h with h | h
 · exact Or.inl h
 · cases o
   · exact Or.inr (Or.inl h)
   · exact Or.inr (Or.inr (Or.inl h))
theorem KB.tape (h : KB C w S b Q p d k q) (o : Bool) {t' : Tm} (hd : Tp C w' S' (Q o) p d' t') (ht : Turn (SQ S (Q o)) (SQ S' (Q o)) w w') (hl : d'.B.length = d.B.length) (ha : t'.at_ = (k.T o).at_ ∧ t'.len = (k.T o).len) :
   KB C w' S' b Q p d' { k with T := upT k.T o t' } q ∧ Turn (KS S b Q) (KS S' b Q) w w' := by
 have hsz := ht.kept.size
 have hS' : ∀ x, S' x → S x ∨ w.heap.size ≤ x := fun x hx => by
   rcases ht.new x (Or.inl hx) with h1 | h1
   · rcases h1 with h2 | h2
     · exact Or.inl h2
     · exact absurd (h2 ▸ hx) hd.out
   · exact Or.inr h1
 have hno : ∀ x, x ≠ Q o → ¬ S x → x < w.heap.size → w'.heap[x]? = w.heap[x]? := fun x h1 h2 h3 => ht.kept.block x h3 fun e => e.elim h2 h1
 have hnS : ∀ x, ¬ S x → x < w.heap.size → ¬ S' x := fun x h1 h2 h3 => by rcases hS' x h3 with h4 | h4; exact h1 h4; omega
 have hot := h.t (!o)
 have hne := h.neo o
 refine ⟨⟨fun x => ?_, h.ne, ?_, ⟨hnS b h.ob.1 h.lt, h.ob.2⟩, ?_, h.ok⟩, ⟨⟨ht.kept.os, ht.kept.tape, ht.kept.output, hsz, fun x hx hn => ht.kept.block x hx fun e => hn (KS.sq e)⟩, fun x hx => ?_⟩⟩
 · rcases bool_or o x with rfl | rfl
   · show Tp C w' S' (Q x) p d' (upT k.T x t' x)
     rw [upT_at]; exact hd
   · show Tp C w' S' (Q (!o)) p d' (upT k.T o t' (!o))
     rw [upT_oth]
     exact ⟨hd.dk, by unfold TBox; rw [hno _ hne hot.out hot.box.lt]; exact hot.box, hnS _ hot.out hot.box.lt, by rw [hl]; exact hot.dis, hot.five, hot.fin, hot.num⟩
 · rw [hno b (h.nq o) h.ob.1 h.lt, h.box]
   congr 2
   unfold kpC
   dsimp only
   cases o
   · rw [show (upT k.T false t' false) = t' from rfl, show (upT k.T false t' true) = k.T true from rfl, ha.1, ha.2]
   · rw [show (upT k.T true t' true) = t' from rfl, show (upT k.T true t' false) = k.T false from rfl, ha.1, ha.2]
 · refine h.rows.move (fun x hx hx2 => ht.kept.block x hx2 fun e => hx.2 (KS.sq e)) fun x hx => ⟨Nat.lt_of_lt_of_le hx.1 hsz, fun e => ?_⟩
   rcases e with e | e | e | e
   · rcases hS' x e with h1 | h1
     · exact hx.2 (Or.inl h1)
     · have := hx.1; omega
   · exact hx.2 (Or.inr (Or.inl e))
   · exact hx.2 (Or.inr (Or.inr (Or.inl e)))
   · exact hx.2 (Or.inr (Or.inr (Or.inr e)))
 · rcases hx with hx | hx
   · rcases hS' x hx with h1 | h1
     · exact Or.inl (Or.inl h1)
     · exact Or.inr h1
   · exact Or.inl (Or.inr hx)
theorem KB.upd (h : KB C w S b Q p d k q) (ho : OnlyP b w w') (hb : w'.heap[b]? = some (.cells (kpC k' q' Q) 75 (0, 0))) (hT : k'.T = k.T) (hr : Rws w' (Av w' (KS S b Q)) k'.kept q') (hk : (∀ e ∈ k'.kept.log.l, e.ok) ∧ (∀ z ∈ k'.kept.conf, inI z)) :
   KB C w' S b Q p d k' q' ∧ Turn (KS S b Q) (KS S b Q) w w' := by
 refine ⟨⟨fun o => ?_, h.ne, hb, h.ob, hr, hk⟩, ⟨⟨ho.os, ho.tape, ho.output, Nat.le_of_eq ho.size.symm, fun x _ hn => ho.block x fun e => hn (Or.inr (Or.inr (Or.inr e)))⟩, fun x hx => Or.inl hx⟩⟩
 have ht := h.t o
 rw [hT]
 exact ⟨C.frame ht.dk fun x hx => ho.block x fun e => h.ob.1 (e ▸ hx), by unfold TBox; rw [ho.block _ fun e => h.nq o e.symm]; exact ht.box, ht.out, ht.dis, ht.five, ht.fin, ht.num⟩
end
def layX (d : Dk) (k : Km) (o : Bool) (x : List UInt8) : Dk × Km × Nat :=
 if o = k.on then ((appS d (k.T o) x).1, { k with T := upT k.T o (appT (k.T o) x (appS d (k.T o) x).2) }, (appS d (k.T o) x).2)
 else if (resS d (k.T o)).2 = 0 then ((appS (resS d (k.T o)).1 (resT (k.T o) 0) x).1, { k with T := upT k.T o (appT (resT (k.T o) 0) x (appS (resS d (k.T o)).1 (resT (k.T o) 0) x).2) }, (appS (resS d (k.T o)).1 (resT (k.T o) 0) x).2)
 else ((resS d (k.T o)).1, { k with T := upT k.T o (resT (k.T o) (resS d (k.T o)).2) }, (resS d (k.T o)).2)
def finK (k : Km) (o : Bool) (e : Nat) (s : St) : Km := if e = 0 then { k with on := o, saves := k.saves + 1, kept := s } else { k with dead := e }
theorem upT_twice (T : Bool → Tm) (o : Bool) (a c : Tm) : upT (upT T o a) o c = upT T o c := by
 funext x; unfold upT; by_cases h : x = o
 · rw [if_pos h, if_pos h]
 · rw [if_neg h, if_neg h, if_neg h]
theorem layK_X {d : Dk} {k : Km} {o : Bool} {x : List UInt8} {s : St} (h : o = k.on) : layK d k o x s = ((layX d k o x).1, finK (layX d k o x).2.1 o (layX d k o x).2.2 s, (layX d k o x).2.2) := by
 unfold layK layX finK
 rw [if_pos h]
 by_cases he : (appS d (k.T o) x).2 = 0
 · rw [if_pos he]; simp only [he, if_true]
 · rw [if_neg he]; simp only [he, if_false]
theorem saveR_lay {d : Dk} {k : Km} {s : St} (hd : k.dead = 0) (hs : sameS s k.kept = false) (hm : mayS s = true) (o : Bool)
   (ho : (o = k.on ∧ fitT (k.T k.on) (encS (k.saves + 1 : Nat) s) = true) ∨ (o = !k.on ∧ fitT (k.T k.on) (encS (k.saves + 1 : Nat) s) = false ∧ ¬ (k.T (!k.on)).len < 5 + (encS (k.saves + 1 : Nat) s).length)) :
   saveR d k s = ((layX d k o (encS (k.saves + 1 : Nat) s)).1, finK (layX d k o (encS (k.saves + 1 : Nat) s)).2.1 o (layX d k o (encS (k.saves + 1 : Nat) s)).2.2 s, (layX d k o (encS (k.saves + 1 : Nat) s)).2.2) := by
 unfold saveR
 rw [if_neg (by rw [hd]; decide), if_neg (by rw [hs]; decide), if_neg (by rw [hm]; decide)]
 rcases ho with ⟨rfl, hf⟩ | ⟨rfl, hf, hg⟩
 · rw [if_pos hf]; exact layK_X rfl
 · rw [if_neg (by rw [hf]; decide), if_neg hg]
   have hne : ¬ (!k.on) = k.on := by cases k.on <;> decide
   unfold layX layK finK
   rw [if_neg hne]
   by_cases hr : (resS d (k.T (!k.on))).2 = 0
   · rw [if_pos hr, if_pos hr]
     simp only [upT_at, upT_twice]
     by_cases he : (appS (resS d (k.T (!k.on))).1 (resT (k.T (!k.on)) 0) (encS (k.saves + 1 : Nat) s)).2 = 0
     · rw [if_pos he]; simp only [he, if_true]
     · rw [if_neg he]; simp only [he, if_false]
   · rw [if_neg hr, if_neg hr]; simp only [hr, if_false]
end
section
section
variable {C : ConD} {w : World} {S : Nat → Prop} {b p : Nat} {Q : Bool → Nat} {d : Dk} {k : Km} {q : Pl}
theorem app_at (t : Tm) (x : List UInt8) (e : Nat) : (appT t x e).at_ = t.at_ ∧ (appT t x e).len = t.len := by unfold appT; by_cases h : e = 0 <;> simp [h]
theorem res_at (t : Tm) (e : Nat) : (resT t e).at_ = t.at_ ∧ (resT t e).len = t.len := by unfold resT; by_cases h : e = 0 <;> simp [h]
def Calm (d : Dk) (k : Km) : Prop := d.L = [] ∧ d.B.length ≤ 1048576 ∧ ∀ o, (k.T o).dead = 0
theorem KB.cellT (h : KB C w S b Q p d k q) (o : Bool) : w.cell? ⟨b, if o = true then 5 else 4, none⟩ = some (.pointer (some ⟨Q o, 0, none⟩)) := by
 cases o
 · exact h.cell 4
 · exact h.cell 5
theorem KB.cellOn (h : KB C w S b Q p d k q) : w.cell? ⟨b, 6, none⟩ = some (.int .i64 (onI k.on)) := h.cell 6
set_option maxHeartbeats 16000000 in
theorem lay_any (h : KB C w S b Q p d k q) (hc : Calm d k) (o : Bool) (A : Option Addr) (m c : Nat) (x : List UInt8) (hx : SlT w (Av w (KS S b Q)) (.slice A m c) x) (hm : m = x.length)
   (hf : (o = k.on ∧ fitT (k.T o) x = true) ∨ (o = !k.on ∧ 5 + x.length ≤ (k.T o).len)) :
   Calls Tryz.prog 31 #[.pointer (some ⟨b, 0, none⟩), .int .i64 (onI o), .slice A m c] w fun y w' => ∃ S', y = .returned (er (layX d k o x).2.2) ∧ KB C w' S' b Q p (layX d k o x).1 (layX d k o x).2.1 q ∧ Turn (KS S b Q) (KS S' b Q) w w' := by
 have hlen : x.length ≤ 1048576 := by
   have h1 := (h.t o).dis
   have h2 := hc.2.1
   rcases hf with ⟨-, h3⟩ | ⟨-, h3⟩
   · have := of_decide_eq_true h3; omega
   · omega
 have hcell := h.cellT o
 have hon := h.cellOn
 have hio : onI o = 0 ∨ onI o = 1 := by cases o; exact Or.inl rfl; exact Or.inr rfl
 rcases hf with ⟨he, hf⟩ | ⟨he, hf⟩
 · have hfit := of_decide_eq_true hf
   have hX : layX d k o x = ((appS d (k.T o) x).1, { k with T := upT k.T o (appT (k.T o) x (appS d (k.T o) x).2) }, (appS d (k.T o) x).2) := if_pos he
   rw [hX]
   have hwi : Wi d.B (k.T o).at_ (k.T o).len (appS d (k.T o) x).1 := (Wi.refl d hc.1 _ _).app (h.t o).dis ⟨rfl, rfl⟩ hfit
   have CA := Append_go (h.t o) (hc.2.2 o) (by rw [hc.1]; simp) A c x hlen hfit (by rw [← hm]; exact hx.mono fun y hy => ⟨hy.1, fun e => hy.2 (KS.sq e)⟩)
   rw [← hm] at CA
   have CA := jI CA
   have HE := jI (jA h hwi.size)
   rw [← he] at hon
   clear h hc hx hm hf he hX hwi hfit hlen
   cases o with
   | false =>
     replace hcell : w.cell? ⟨b, 4, none⟩ = some (.pointer (some ⟨Q false, 0, none⟩)) := hcell
     rw [show onI false = 0 from rfl] at hon ⊢
     go_enter Tryz.func31, Tryz.ntmps31
     go_wp2_with (go_at_call 24; go_must (refine CA.out.mono ?_; rintro y w1 ⟨S', rfl, hd, ht⟩; have H1 := jI (HE.out.1.tape false hd ht HE.out.2 (app_at _ _ _)); clear hd ht))
     go_ret
     exact ⟨S', rfl, H1.out.1, H1.out.2⟩
   | true =>
     replace hcell : w.cell? ⟨b, 5, none⟩ = some (.pointer (some ⟨Q true, 0, none⟩)) := hcell
     rw [show onI true = 1 from rfl] at hon ⊢
     go_enter Tryz.func31, Tryz.ntmps31
     go_wp2_with (go_at_call 24; go_must (refine CA.out.mono ?_; rintro y w1 ⟨S', rfl, hd, ht⟩; have H1 := jI (HE.out.1.tape true hd ht HE.out.2 (app_at _ _ _)); clear hd ht))
     go_ret
     exact ⟨S', rfl, H1.out.1, H1.out.2⟩
 · have hne : ¬ o = k.on := by rw [he]; cases k.on <;> decide
   have hwi : Wi d.B (k.T o).at_ (k.T o).len (resS d (k.T o)).1 := (Wi.refl d hc.1 _ _).res (h.t o).dis ⟨rfl, rfl⟩ (h.t o).five
   have CR := Reset_go (h.t o) (hc.2.2 o) (by rw [hc.1]; simp)
   have hko : k.on = !o := by rw [he, Bool.not_not]
   have hcalm : (resS d (k.T o)).2 = 0 → (resS d (k.T o)).1.L = [] := fun e => chain_calm d (k.T o).at_ [0] e
   have hw2 : (resS d (k.T o)).2 = 0 → (appS (resS d (k.T o)).1 (resT (k.T o) 0) x).1.B.length = (resS d (k.T o)).1.B.length := fun e =>
     ((Wi.refl _ (hcalm e) (k.T o).at_ (k.T o).len).app (by rw [hwi.size]; exact (h.t o).dis) (t := resT (k.T o) 0) (res_at _ _) (show 0 + 5 + x.length ≤ (k.T o).len by omega)).size
   have HE := jI (jA h (jA hwi.size (jA hx (jA (jA hm hf) (jA hlen (hc.2.2 o))))))
   unfold layX
   rw [if_neg hne]
   clear h hc hx hm hf he hne hwi hlen
   cases o with
   | false =>
     replace hcell : w.cell? ⟨b, 4, none⟩ = some (.pointer (some ⟨Q false, 0, none⟩)) := hcell
     rw [hko, show onI (!false) = 1 from rfl] at hon
     rw [show onI false = 0 from rfl]
     by_cases hr : (resS d (k.T false)).2 = 0
     · have hL1 := hcalm hr
       rw [hr, er_zero] at CR
       have CR := jI CR
       rw [if_pos hr]
       dsimp only
       have HN := jI (jA hL1 (jA hr (hw2 hr)))
       clear hL1 hr hw2 hcalm hko
       go_enter Tryz.func31, Tryz.ntmps31
       go_upto_region 5 with (go_at_call 76; go_must (refine CR.out.mono ?_; rintro y w1 ⟨S1, rfl, hd, ht⟩; have H1 := jI (jA (HE.out.1.tape false hd ht HE.out.2.1 (res_at _ _)) (jA hd ht)); clear hd ht))
       have h1 := H1.out.1.1
       have hcell := h1.cellT false
       replace hcell : w1.cell? ⟨b, 4, none⟩ = some (.pointer (some ⟨Q false, 0, none⟩)) := hcell
       have hxx : SlT w1 (Av w1 (KS S1 b Q)) (.slice A m c) x := (HE.out.2.2.1.kept fun y hy hy2 => H1.out.1.2.kept.block y hy2 hy.2).mono fun y hy => ⟨Nat.lt_of_lt_of_le hy.1 H1.out.1.2.kept.size, fun e => by
         rcases H1.out.1.2.new y e with h2 | h2
         · exact hy.2 h2
         · have := hy.1; omega⟩
       have CA := Append_go H1.out.2.1 (show (resT (k.T false) 0).dead = 0 from HE.out.2.2.2.2.2) (by rw [HN.out.1]; simp) A c x HE.out.2.2.2.2.1 (show 0 + 5 + x.length ≤ (k.T false).len from by have := HE.out.2.2.2.1.2; omega) (by rw [← HE.out.2.2.2.1.1]; exact hxx.mono fun y hy => ⟨hy.1, fun e => hy.2 (KS.sq e)⟩)
       rw [← HE.out.2.2.2.1.1] at CA
       have CA := jI CA
       have T2 := jI fun w2 S2 (hd : Tp C w2 S2 (Q false) p (appS (resS d (k.T false)).1 (resT (k.T false) 0) x).1 (appT (resT (k.T false) 0) x (appS (resS d (k.T false)).1 (resT (k.T false) 0) x).2)) ht => KB.tape (k := { k with T := upT k.T false (resT (k.T false) 0) }) h1 false hd ht HN.out.2.2 (by show _ = (upT k.T false (resT (k.T false) 0) false).at_ ∧ _ = (upT k.T false (resT (k.T false) 0) false).len; rw [upT_at]; exact app_at _ _ _)
       clear h1 hxx
       go_wp2_with (go_at_call 24; go_must (refine CA.out.mono ?_; rintro y w2 ⟨S2, rfl, hd, ht⟩; have H2 := jI (T2.out _ _ hd ht); clear hd ht))
       go_ret
       have h2 := H2.out.1
       have h3 := H1.out.1.2.trans H2.out.2
       rw [upT_twice] at h2
       exact ⟨S2, by simp only [Array.getD_eq_getD_getElem?, List.getElem?_toArray, List.getElem?_cons_succ, List.getElem?_cons_zero, Option.getD_some], h2, h3⟩
     · rw [if_neg hr]
       dsimp only
       rw [er_ne hr] at CR ⊢
       have CR := jI CR
       clear hcalm hw2 hko
       go_enter Tryz.func31, Tryz.ntmps31
       go_wp2_with (go_at_call 76; go_must (refine CR.out.mono ?_; rintro y w1 ⟨S1, rfl, hd, ht⟩; have H1 := jI (HE.out.1.tape false hd ht HE.out.2.1 (res_at _ _)); clear hd ht))
       go_ret
       exact ⟨S1, rfl, H1.out.1, H1.out.2⟩
   | true =>
     replace hcell : w.cell? ⟨b, 5, none⟩ = some (.pointer (some ⟨Q true, 0, none⟩)) := hcell
     rw [hko, show onI (!true) = 0 from rfl] at hon
     rw [show onI true = 1 from rfl]
     by_cases hr : (resS d (k.T true)).2 = 0
     · have hL1 := hcalm hr
       rw [hr, er_zero] at CR
       have CR := jI CR
       rw [if_pos hr]
       dsimp only
       have HN := jI (jA hL1 (jA hr (hw2 hr)))
       clear hL1 hr hw2 hcalm hko
       go_enter Tryz.func31, Tryz.ntmps31
       go_upto_region 5 with (go_at_call 76; go_must (refine CR.out.mono ?_; rintro y w1 ⟨S1, rfl, hd, ht⟩; have H1 := jI (jA (HE.out.1.tape true hd ht HE.out.2.1 (res_at _ _)) (jA hd ht)); clear hd ht))
       have h1 := H1.out.1.1
       have hcell := h1.cellT true
       replace hcell : w1.cell? ⟨b, 5, none⟩ = some (.pointer (some ⟨Q true, 0, none⟩)) := hcell
       have hxx : SlT w1 (Av w1 (KS S1 b Q)) (.slice A m c) x := (HE.out.2.2.1.kept fun y hy hy2 => H1.out.1.2.kept.block y hy2 hy.2).mono fun y hy => ⟨Nat.lt_of_lt_of_le hy.1 H1.out.1.2.kept.size, fun e => by
         rcases H1.out.1.2.new y e with h2 | h2
         · exact hy.2 h2
         · have := hy.1; omega⟩
       have CA := Append_go H1.out.2.1 (show (resT (k.T true) 0).dead = 0 from HE.out.2.2.2.2.2) (by rw [HN.out.1]; simp) A c x HE.out.2.2.2.2.1 (show 0 + 5 + x.length ≤ (k.T true).len from by have := HE.out.2.2.2.1.2; omega) (by rw [← HE.out.2.2.2.1.1]; exact hxx.mono fun y hy => ⟨hy.1, fun e => hy.2 (KS.sq e)⟩)
       rw [← HE.out.2.2.2.1.1] at CA
       have CA := jI CA
       have T2 := jI fun w2 S2 (hd : Tp C w2 S2 (Q true) p (appS (resS d (k.T true)).1 (resT (k.T true) 0) x).1 (appT (resT (k.T true) 0) x (appS (resS d (k.T true)).1 (resT (k.T true) 0) x).2)) ht => KB.tape (k := { k with T := upT k.T true (resT (k.T true) 0) }) h1 true hd ht HN.out.2.2 (by show _ = (upT k.T true (resT (k.T true) 0) true).at_ ∧ _ = (upT k.T true (resT (k.T true) 0) true).len; rw [upT_at]; exact app_at _ _ _)
       clear h1 hxx
       go_wp2_with (go_at_call 24; go_must (refine CA.out.mono ?_; rintro y w2 ⟨S2, rfl, hd, ht⟩; have H2 := jI (T2.out _ _ hd ht); clear hd ht))
       go_ret
       have h2 := H2.out.1
       have h3 := H1.out.1.2.trans H2.out.2
       rw [upT_twice] at h2
       exact ⟨S2, by simp only [Array.getD_eq_getD_getElem?, List.getElem?_toArray, List.getElem?_cons_succ, List.getElem?_cons_zero, Option.getD_some], h2, h3⟩
     · rw [if_neg hr]
       dsimp only
       rw [er_ne hr] at CR ⊢
       have CR := jI CR
       clear hcalm hw2 hko
       go_enter Tryz.func31, Tryz.ntmps31
       go_wp2_with (go_at_call 76; go_must (refine CR.out.mono ?_; rintro y w1 ⟨S1, rfl, hd, ht⟩; have H1 := jI (HE.out.1.tape true hd ht HE.out.2.1 (res_at _ _)); clear hd ht))
       go_ret
       exact ⟨S1, rfl, H1.out.1, H1.out.2⟩
end
end
section
section
variable {w : World} {b t : Nat} {Q : Bool → Nat} {k : Km} {q : Pl}
theorem kp_cell (h : w.heap[b]? = some (.cells (kpC k q Q) t (0, 0))) (i : Nat) : w.cell? ⟨b, i, none⟩ = (kpC k q Q)[i]? := by rw [cell_of_row w b i _ _ (0, 0) h]
theorem kp_on (h : w.heap[b]? = some (.cells (kpC k q Q) t (0, 0))) (o : Bool) : ∃ F, F = w.setCell ⟨b, 6, none⟩ (.int .i64 (onI o)) ∧ F.heap[b]? = some (.cells (kpC { k with on := o } q Q) t (0, 0)) ∧ OnlyP b w F := by
 refine ⟨_, rfl, ?_, (OnlyP.refl b w).set 6 _⟩
 rw [setc h]; rfl
theorem kp_sv (h : w.heap[b]? = some (.cells (kpC k q Q) t (0, 0))) (n : Nat) : ∃ F, F = w.setCell ⟨b, 7, none⟩ (.int .i64 (n : Int)) ∧ F.heap[b]? = some (.cells (kpC { k with saves := n } q Q) t (0, 0)) ∧ OnlyP b w F := by
 refine ⟨_, rfl, ?_, (OnlyP.refl b w).set 7 _⟩
 rw [setc h]; rfl
theorem kp_dead (h : w.heap[b]? = some (.cells (kpC k q Q) t (0, 0))) (e : Nat) : ∃ F, F = w.setCell ⟨b, 15, none⟩ (er e) ∧ F.heap[b]? = some (.cells (kpC { k with dead := e } q Q) t (0, 0)) ∧ OnlyP b w F := by
 refine ⟨_, rfl, ?_, (OnlyP.refl b w).set 15 _⟩
 rw [setc h]; rfl
theorem kp_kept (h : w.heap[b]? = some (.cells (kpC k q Q) t (0, 0))) (s : St) (v : Pl) :
   ∃ F, F = ((((((w.setCell ⟨b, 8, none⟩ (.int .i64 s.term)).setCell ⟨b, 9, none⟩ (.int .i64 s.vote)).setCell ⟨b, 10, none⟩ (.int .i64 s.log.base)).setCell ⟨b, 11, none⟩ (.int .i64 s.log.term)).setCell ⟨b, 12, none⟩ (.slice v.AL v.nL v.cL)).setCell ⟨b, 13, none⟩ (.slice v.AC v.nC v.cC)).setCell ⟨b, 14, none⟩ (.slice v.AS v.nS v.cS) ∧
     F.heap[b]? = some (.cells (kpC { k with kept := s } v Q) t (0, 0)) ∧ OnlyP b w F := by
 refine ⟨_, rfl, ?_, (((((((OnlyP.refl b w).set 8 _).set 9 _).set 10 _).set 11 _).set 12 _).set 13 _).set 14 _⟩
 have h1 : (w.setCell ⟨b, 8, none⟩ (.int .i64 s.term)).heap[b]? = some (.cells (kpC { k with kept := { k.kept with term := s.term } } q Q) t (0, 0)) := by rw [setc h]; rfl
 have h2 : ((w.setCell ⟨b, 8, none⟩ (.int .i64 s.term)).setCell ⟨b, 9, none⟩ (.int .i64 s.vote)).heap[b]? = some (.cells (kpC { k with kept := { k.kept with term := s.term, vote := s.vote } } q Q) t (0, 0)) := by rw [setc h1]; rfl
 have h3 : (((w.setCell ⟨b, 8, none⟩ (.int .i64 s.term)).setCell ⟨b, 9, none⟩ (.int .i64 s.vote)).setCell ⟨b, 10, none⟩ (.int .i64 s.log.base)).heap[b]? = some (.cells (kpC { k with kept := { k.kept with term := s.term, vote := s.vote, log := { k.kept.log with base := s.log.base } } } q Q) t (0, 0)) := by rw [setc h2]; rfl
 have h4 : ((((w.setCell ⟨b, 8, none⟩ (.int .i64 s.term)).setCell ⟨b, 9, none⟩ (.int .i64 s.vote)).setCell ⟨b, 10, none⟩ (.int .i64 s.log.base)).setCell ⟨b, 11, none⟩ (.int .i64 s.log.term)).heap[b]? = some (.cells (kpC { k with kept := { k.kept with term := s.term, vote := s.vote, log := { k.kept.log with base := s.log.base, term := s.log.term } } } q Q) t (0, 0)) := by rw [setc h3]; rfl
 have h5 : (((((w.setCell ⟨b, 8, none⟩ (.int .i64 s.term)).setCell ⟨b, 9, none⟩ (.int .i64 s.vote)).setCell ⟨b, 10, none⟩ (.int .i64 s.log.base)).setCell ⟨b, 11, none⟩ (.int .i64 s.log.term)).setCell ⟨b, 12, none⟩ (.slice v.AL v.nL v.cL)).heap[b]? = some (.cells (kpC { k with kept := { k.kept with term := s.term, vote := s.vote, log := { k.kept.log with base := s.log.base, term := s.log.term } } } { q with AL := v.AL, nL := v.nL, cL := v.cL } Q) t (0, 0)) := by rw [setc h4]; rfl
 have h6 : ((((((w.setCell ⟨b, 8, none⟩ (.int .i64 s.term)).setCell ⟨b, 9, none⟩ (.int .i64 s.vote)).setCell ⟨b, 10, none⟩ (.int .i64 s.log.base)).setCell ⟨b, 11, none⟩ (.int .i64 s.log.term)).setCell ⟨b, 12, none⟩ (.slice v.AL v.nL v.cL)).setCell ⟨b, 13, none⟩ (.slice v.AC v.nC v.cC)).heap[b]? = some (.cells (kpC { k with kept := { k.kept with term := s.term, vote := s.vote, log := { k.kept.log with base := s.log.base, term := s.log.term } } } { q with AL := v.AL, nL := v.nL, cL := v.cL, AC := v.AC, nC := v.nC, cC := v.cC } Q) t (0, 0)) := by rw [setc h5]; rfl
 rw [setc h6]; rfl
end
end
end Go.Proofs.YtncaefocijainaaGreatDoor.pk
