import Derived.Test.YtncaefocijainaaGreatDoorG41
import Derived.Maps.OwnSet
import Derived.Deep.QuietTactic
import Derived.BigQuiet
import Derived.Test.YtncaefocijainaaGreatDoorG23
import Derived.Test.YtncaefocijainaaGreatDoorG30
import Derived.Test.YtncaefocijainaaGreatDoorG35
namespace Go.Proofs.YtncaefocijainaaGreatDoor.pk
open Go Go.RowKit
set_option maxRecDepth 100000
section
theorem from_all {l : Lg} (h : mayE l = true) : fromE l (l.base + 1) 4096 = l.l := by
 have h1 := (may_ok h).1
 unfold fromE
 rw [if_neg (fun e => e.elim (fun e => by rw [h] at e; cases e) fun e => by omega)]
 rw [show (l.base + 1 - l.base - 1).toNat = 0 from by omega, List.drop_zero]
 exact List.take_of_length_le (by omega)
structure Fresh (w w' : World) (s : St) (q : Pl) : Prop where
 ents : EntsT w' (fun k => w.heap.size ≤ k ∧ k < w'.heap.size) (.slice q.AL q.nL q.cL) s.log.l
 conf : IntsT w' (fun k => w.heap.size ≤ k ∧ k < w'.heap.size) (.slice q.AC q.nC q.cC) s.conf
 snap : SlT w' (fun k => w.heap.size ≤ k ∧ k < w'.heap.size) (.slice q.AS q.nS q.cS) s.snap
set_option maxHeartbeats 8000000 in
theorem rcopied_any (s : St) (q : Pl) (w : World) (hL : Inp s.log q.AL q.nL q.cL w) (hC : Ints w (.slice q.AC q.nC q.cC) s.conf) (hS : Bys w (.slice q.AS q.nS q.cS) s.snap) (hm : mayE s.log = true) (hc : mayC s.conf = true) (hn : s.snap.length ≤ 2000000) :
   Calls Tryz.prog 103 #[stV s q] w fun e w' => ∃ q', e = .returned (stV s q') ∧ Fresh w w' s q' ∧ Below w.heap.size w w' := by
 obtain ⟨W1, g0, hW1, hg0, hb1, hq1, hsz1⟩ := one_box w (.cells #[.int .i64 s.term, .int .i64 s.vote, .int .i64 s.log.base, .int .i64 s.log.term, .slice q.AL q.nL q.cL, .slice q.AC q.nC q.cC, .slice q.AS q.nS q.cS] 35)
 obtain ⟨W2, g1, hW2, hg1, hb2, hq2, hsz2⟩ := one_box W1 (.cells #[.int .i64 0, .int .i64 0, .int .i64 0, .int .i64 0, .slice none 0 0, .slice none 0 0, .slice none 0 0] 35)
 have hres : Tryz.f103.results = #[.cell 2 35] := by kernel_rfl
 have hg1' : g1 = w.heap.size + 1 := by omega
 obtain ⟨nE, hnE⟩ : ∃ nE, nE = s.log.l.length := ⟨_, rfl⟩
 have hbm := (may_ok hm).1
 have kb : IntKind.i64.wrap (s.log.base + 1) = s.log.base + 1 := by rw [IntKind.wrap_i64]; omega
 have hb12 : Below w.heap.size w W2 := hb1.trans (hb2.mono hb1.size)
 have hQ2 : W2.heap[g0]? = some (.cells #[.int .i64 s.term, .int .i64 s.vote, .int .i64 s.log.base, .int .i64 s.log.term, (.slice q.AL q.nL q.cL), (.slice q.AC q.nC q.cC), (.slice q.AS q.nS q.cS)] 35 (0, 0)) := (hb2.block g0 (by omega)).trans hq1
 obtain ⟨hmC, -, -, -⟩ := hC.at_
 have hmS := hS.len_
 have hnC : 0 < q.nC ∧ q.nC ≤ 1000 := by have := (mayC_ok hc).1; omega
 have CF := jI (From_g s.log q.AL q.nL q.cL (s.log.base + 1) 4096 W2 (hL.below hb12) s.log.l (from_all hm).symm nE hnE)
 have CC := jI fun W (hW : Below w.heap.size w W) => clone_own q.AC q.nC q.cC s.conf W (hC.below hW) hnC.1 hnC.2
 have CB := jI fun W (hW : Below w.heap.size w W) => BClone_any W q.AS q.nS q.cS s.snap (hS.below hW) (by omega)
 have HE := jI (jA hb12 (jA hQ2 (jA hq2 (jA hg1' (jA (show g0 = w.heap.size from hg0) (jA hsz2 (jA hnE (jA hmC hmS))))))))
 have HW := jI (jA hW1 hW2)
 have HG := jI (jA hg1' hg0)
 have hne : g1 ≠ g0 := by omega
 have hne' : g0 ≠ g1 := by omega
 obtain ⟨z0, z1, z2, z3, z4, z5, z6⟩ := cells7 hQ2
 clear hL hC hS hm hc hn hW1 hg0 hW2 hg1 hb1 hq1 hsz1 hb2 hq2 hsz2 hg1' hnE hbm hb12 hQ2 hmC hmS hnC
 unfold stV
 go_enter Tryz.func103, Tryz.ntmps103
 go_upto_region 1 with fail
 rw [← HW.out.1, ← HW.out.2, ← HG.out.1, ← HG.out.2]
 go_wp2_with (first
   | (go_at_call 77; go_must (refine CF.out.mono ?_; clear CF z0 z1 z2 z3 z4 z5 z6; rintro y w3 ⟨A3, c3, rfl, hfe, hb3⟩; have B3 : Below w.heap.size w w3 := HE.out.1.trans (hb3.mono HE.out.1.size); have Q3 : w3.heap[g0]? = some (.cells #[.int .i64 s.term, .int .i64 s.vote, .int .i64 s.log.base, .int .i64 s.log.term, (.slice q.AL q.nL q.cL), (.slice q.AC q.nC q.cC), (.slice q.AS q.nS q.cS)] 35 (0, 0)) := (hb3.block g0 (obj_lt HE.out.2.1)).trans HE.out.2.1; obtain ⟨-, -, -, -, z4, z5, -⟩ := cells7 Q3; have f4 := frozen_own Q3 4; obtain ⟨W4, hW4⟩ : ∃ W, W = w3.setCell ⟨g0, 4, none⟩ (.slice A3 nE c3) := ⟨_, rfl⟩; have Y3 := jI (show w3.heap[g1]? = some (.cells #[.int .i64 0, .int .i64 0, .int .i64 0, .int .i64 0, .slice none 0 0, .slice none 0 0, .slice none 0 0] 35 (0, 0)) from (hb3.block g1 (obj_lt HE.out.2.2.1)).trans HE.out.2.2.1); have H3 := jI (jA hfe (jA hb3 (jA B3 (jA Q3 hW4)))); clear hfe hb3 B3 Q3 hW4))
   | (go_at_call 78; rw [← H3.out.2.2.2.2]; have B4 : Below w.heap.size w W4 := (by rw [H3.out.2.2.2.2]; exact H3.out.2.2.1.setCell (show w.heap.size ≤ _ from Nat.le_of_eq HE.out.2.2.2.2.1.symm) _); go_must (refine (CC.out W4 B4).mono ?_; clear CC z4 z5 f4; rintro y w5 ⟨g5, k5, rfl, ho5, hb5⟩; have B5 : Below w.heap.size w w5 := B4.trans (hb5.mono B4.size); have Q4 : W4.heap[g0]? = some (.cells #[.int .i64 s.term, .int .i64 s.vote, .int .i64 s.log.base, .int .i64 s.log.term, (.slice A3 nE c3), (.slice q.AC q.nC q.cC), (.slice q.AS q.nS q.cS)] 35 (0, 0)) := (by rw [H3.out.2.2.2.2]; exact setc H3.out.2.2.2.1 _); have Q5 : w5.heap[g0]? = some (.cells #[.int .i64 s.term, .int .i64 s.vote, .int .i64 s.log.base, .int .i64 s.log.term, (.slice A3 nE c3), (.slice q.AC q.nC q.cC), (.slice q.AS q.nS q.cS)] 35 (0, 0)) := (hb5.block g0 (obj_lt Q4)).trans Q4; obtain ⟨-, -, -, -, -, z5, z6⟩ := cells7 Q5; have f5 := frozen_own Q5 5; obtain ⟨W6, hW6⟩ : ∃ W, W = w5.setCell ⟨g0, 5, none⟩ (.slice (some ⟨g5, 0, none⟩) q.nC k5) := ⟨_, rfl⟩; have Y4 : W4.heap[g1]? = some (.cells #[.int .i64 0, .int .i64 0, .int .i64 0, .int .i64 0, .slice none 0 0, .slice none 0 0, .slice none 0 0] 35 (0, 0)) := (by rw [H3.out.2.2.2.2]; exact (setc_oth _ (by have := HE.out.2.2.2.1; have := HE.out.2.2.2.2.1; omega)).trans Y3.out); have Y5 := jI (show w5.heap[g1]? = some (.cells #[.int .i64 0, .int .i64 0, .int .i64 0, .int .i64 0, .slice none 0 0, .slice none 0 0, .slice none 0 0] 35 (0, 0)) from (hb5.block g1 (obj_lt Y4)).trans Y4); clear Y4; have H5 := jI (jA ho5 (jA hb5 (jA B5 (jA Q5 hW6)))); clear ho5 hb5 B4 B5 Q4 Q5 hW6))
   | (go_at_call 79; rw [← H5.out.2.2.2.2]; have B6 : Below w.heap.size w W6 := (by rw [H5.out.2.2.2.2]; exact H5.out.2.2.1.setCell (show w.heap.size ≤ _ from Nat.le_of_eq HE.out.2.2.2.2.1.symm) _); go_must (refine (CB.out W6 B6).mono ?_; clear CB z5 z6 f5; rintro y w7 ⟨A7, c7, rfl, hd7, hb7⟩; have B7 : Below w.heap.size w w7 := B6.trans (hb7.mono B6.size); have Q6 : W6.heap[g0]? = some (.cells #[.int .i64 s.term, .int .i64 s.vote, .int .i64 s.log.base, .int .i64 s.log.term, (.slice A3 nE c3), (.slice (some ⟨g5, 0, none⟩) q.nC k5), (.slice q.AS q.nS q.cS)] 35 (0, 0)) := (by rw [H5.out.2.2.2.2]; exact setc H5.out.2.2.2.1 _); have Q7 : w7.heap[g0]? = some (.cells #[.int .i64 s.term, .int .i64 s.vote, .int .i64 s.log.base, .int .i64 s.log.term, (.slice A3 nE c3), (.slice (some ⟨g5, 0, none⟩) q.nC k5), (.slice q.AS q.nS q.cS)] 35 (0, 0)) := (hb7.block g0 (obj_lt Q6)).trans Q6; obtain ⟨z0, z1, z2, z3, z4, z5, z6⟩ := cells7 Q7; have f6 := frozen_own Q7 6; have Y6 : W6.heap[g1]? = some (.cells #[.int .i64 0, .int .i64 0, .int .i64 0, .int .i64 0, .slice none 0 0, .slice none 0 0, .slice none 0 0] 35 (0, 0)) := (by rw [H5.out.2.2.2.2]; exact (setc_oth _ (by have := HE.out.2.2.2.1; have := HE.out.2.2.2.2.1; omega)).trans Y5.out); have Y7 := (hb7.block g1 (obj_lt Y6)).trans Y6; clear Y6; obtain ⟨y0, y1, y2, y3, y4, y5, y6⟩ := cells7 Y7; have e0 := frozen_own Y7 0; have e1 := frozen_own Y7 1; have e2 := frozen_own Y7 2; have e3 := frozen_own Y7 3; have e4 := frozen_own Y7 4; have e5 := frozen_own Y7 5; have e6 := frozen_own Y7 6; have HY7 := jI Y7; clear Y7; have H7 := jI (jA hd7 (jA hb7 (jA B7 Q7))); clear hd7 hb7 B6 B7 Q6 Q7)))
 obtain ⟨W8, hW8⟩ : ∃ W, W = w7.setCell ⟨g0, 6, none⟩ (.slice A7 q.nS c7) := ⟨_, rfl⟩
 have Y8 : W8.heap[g1]? = some (.cells #[.int .i64 0, .int .i64 0, .int .i64 0, .int .i64 0, .slice none 0 0, .slice none 0 0, .slice none 0 0] 35 (0, 0)) := by rw [hW8]; exact (setc_oth _ hne).trans HY7.out
 obtain ⟨F, hF⟩ : ∃ F, F = ((((((W8.setCell ⟨g1, 0, none⟩ (.int .i64 s.term)).setCell ⟨g1, 1, none⟩ (.int .i64 s.vote)).setCell ⟨g1, 2, none⟩ (.int .i64 s.log.base)).setCell ⟨g1, 3, none⟩ (.int .i64 s.log.term)).setCell ⟨g1, 4, none⟩ (.slice A3 nE c3)).setCell ⟨g1, 5, none⟩ (.slice (some ⟨g5, 0, none⟩) q.nC k5)).setCell ⟨g1, 6, none⟩ (.slice A7 q.nS c7) := ⟨_, rfl⟩
 rw [← hW8, ← hF]
 have hoF : OnlyP g1 W8 F := by rw [hF]; exact (((((((OnlyP.refl g1 W8).set 0 _).set 1 _).set 2 _).set 3 _).set 4 _).set 5 _).set 6 _
 have ho8 : OnlyP g0 w7 W8 := by rw [hW8]; exact (OnlyP.refl g0 w7).set 6 _
 have ho6 : OnlyP g0 w5 W6 := by rw [H5.out.2.2.2.2]; exact (OnlyP.refl g0 w5).set 5 _
 have ho4 : OnlyP g0 w3 W4 := by rw [H3.out.2.2.2.2]; exact (OnlyP.refl g0 w3).set 4 _
 have hFc : F.heap[g1]? = some (.cells #[.int .i64 s.term, .int .i64 s.vote, .int .i64 s.log.base, .int .i64 s.log.term, .slice A3 nE c3, .slice (some ⟨g5, 0, none⟩) q.nC k5, .slice A7 q.nS c7] 35 (0, 0)) := by
   rw [hF]; exact setc (setc (setc (setc (setc (setc (setc Y8 _) _) _) _) _) _) _
 have hs2 := HE.out.2.2.2.2.2.1
 have hg0' := HE.out.2.2.2.2.1
 have hg1' := HE.out.2.2.2.1
 have s7 : F.heap.size = w7.heap.size := hoF.size.trans ho8.size
 have s6 : W6.heap.size = w5.heap.size := ho6.size
 have s4 : W4.heap.size = w3.heap.size := ho4.size
 have l3 := H3.out.2.1.size
 have l5 := H5.out.2.1.size
 have l7 := H7.out.2.1.size
 have k7 : ∀ k, W2.heap.size ≤ k → F.heap[k]? = w7.heap[k]? := fun k hk => (hoF.block k (by omega)).trans (ho8.block k (by omega))
 have k5' : ∀ k, W2.heap.size ≤ k → k < w5.heap.size → F.heap[k]? = w5.heap[k]? := fun k hk hl => (k7 k hk).trans ((H7.out.2.1.block k (by omega)).trans (ho6.block k (by omega)))
 have k3 : ∀ k, W2.heap.size ≤ k → k < w3.heap.size → F.heap[k]? = w3.heap[k]? := fun k hk hl => (k5' k hk (by omega)).trans ((H5.out.2.1.block k (by omega)).trans (ho4.block k (by omega)))
 have hbF : Below w.heap.size w F := by
   refine ⟨hoF.os.trans (ho8.os.trans H7.out.2.2.1.os), hoF.tape.trans (ho8.tape.trans H7.out.2.2.1.tape), hoF.output.trans (ho8.output.trans H7.out.2.2.1.output), by have := H7.out.2.2.1.size; omega, fun k hk => ?_⟩
   exact (hoF.block k (by omega)).trans ((ho8.block k (by omega)).trans (H7.out.2.2.1.block k hk))
 have hfr : Fresh w F s { q with AL := A3, nL := nE, cL := c3, AC := some ⟨g5, 0, none⟩, nC := q.nC, cC := k5, AS := A7, nS := q.nS, cS := c7 } := by
   have h5lt := H5.out.1.lt g5 rfl
   refine ⟨H3.out.1.1.move (fun k hk hl => k3 k hk.1 hl) fun k hk => ⟨by have := hk.1; omega, by have := hk.2; omega⟩, ?_, (H7.out.1.kept fun k hk hl => k7 k (by have := hk.1; omega)).mono fun k hk => ⟨by have := hk.1; omega, by have := hk.2; omega⟩⟩
   have hr := RowT.of_own (own_kept2 H5.out.1 (w' := F) fun g hg => k5' g (by have := (H5.out.1.lt g hg).1; omega) (H5.out.1.lt g hg).2) (fun k => w.heap.size ≤ k ∧ k < F.heap.size) fun g hg => ⟨by have := (H5.out.1.lt g hg).1; omega, by have := (H5.out.1.lt g hg).2; omega⟩
   have hmC := HE.out.2.2.2.2.2.2.2.1
   unfold IntsT
   rw [← hmC]
   exact hr
 refine bodyPost_ret (v := stV s { q with AL := A3, nL := nE, cL := c3, AC := some ⟨g5, 0, none⟩, nC := q.nC, cC := k5, AS := A7, nS := q.nS, cS := c7 }) ?_ rfl ⟨_, rfl, hfr, hbF⟩
 obtain ⟨x0, x1, x2, x3, x4, x5, x6⟩ := cells7 hFc
 clear hfr hbF k3 k5' k7 l3 l5 l7 s4 s6 s7 hg1' hg0' hs2 hFc ho4 ho6 ho8 hoF hF Y8 hW8 z0 z1 z2 z3 z4 z5 z6 y0 y1 y2 y3 y4 y5 y6 e0 e1 e2 e3 e4 e5 e6 f6
 unfold stV
 simp only [results, hres]
 go_simp
end
section
def okM (e : En) : Bool := !misE e
set_option maxHeartbeats 4000000 in
theorem mislead_any (e : En) (Ad : Option Addr) (m cd : Nat) (w : World) (hs : StdP w) (h : Bys w (.slice Ad m cd) e.data) (hm : m ≤ 1000000000) (b : Bool) (hb : b = !okM e) :
   Calls Tryz.prog 119 #[.agg #[.int .i64 e.index, .int .i64 e.term, .int .i64 e.kind, .slice Ad m cd]] w fun y w' => y = .returned (.bool b) ∧ Below w.heap.size w w' := by
 obtain ⟨W1, g, hW1, hg, hb1, hq, hsz⟩ := one_box w (.cells #[.int .i64 e.index, .int .i64 e.term, .int .i64 e.kind, .slice Ad m cd] 151)
 have HW := jI (jA hW1 hg)
 have z2 : W1.cell? ⟨g, 2, none⟩ = some (.int .i64 e.kind) := by rw [cell_of_row W1 g 2 _ _ (0, 0) hq]; rfl
 have z3 : W1.cell? ⟨g, 3, none⟩ = some (.slice Ad m cd) := by rw [cell_of_row W1 g 3 _ _ (0, 0) hq]; rfl
 obtain ⟨n2, hn2⟩ : ∃ n2, n2 = (decC e.data).length := ⟨_, rfl⟩
 obtain ⟨f3, hf3⟩ : ∃ f3, f3 = if okD e.data = true then 0 else 3 := ⟨_, rfl⟩
 have CD := CDec_any Ad m cd e.data W1 (hs.more hb1) (h.below hb1) (by omega) (decC e.data) rfl n2 hn2 f3 hf3
 have HE := jI hb1
 have hbe : b = (decide (e.kind = 2) && !okD e.data) := by rw [hb]; unfold okM misE; simp
 clear hW1 hg hb1 hq hsz hs h hm hb hn2
 obtain ⟨k, hk⟩ : ∃ k, k = e.kind := ⟨_, rfl⟩
 rw [← hk] at z2 hbe HW ⊢
 clear hk
 by_cases kk : k = 2
 · subst kk
   cases ho : okD e.data with
   | true =>
     obtain rfl : f3 = 0 := by rw [hf3, ho]; rfl
     rw [er_zero] at CD
     have CD := jI CD
     obtain rfl : b = false := by rw [hbe, ho]; rfl
     clear hf3 hbe ho
     go_enter Tryz.func119, Tryz.ntmps119
     go_upto_region 1 with fail
     rw [← HW.out.1, ← HW.out.2]
     go_wp2_with (go_at_call 127; go_must (refine CD.out.mono ?_; rintro y w2 ⟨A2, c2, rfl, -, hb⟩; have H2 := jI hb; clear hb))
     go_ret
     exact ⟨rfl, HE.out.trans (H2.out.mono HE.out.size)⟩
   | false =>
     obtain rfl : f3 = 3 := by rw [hf3, ho]; rfl
     rw [er_ne (by decide)] at CD
     have CD := jI CD
     obtain rfl : b = true := by rw [hbe, ho]; rfl
     clear hf3 hbe ho
     go_enter Tryz.func119, Tryz.ntmps119
     go_upto_region 1 with fail
     rw [← HW.out.1, ← HW.out.2]
     go_wp2_with (go_at_call 127; go_must (refine CD.out.mono ?_; rintro y w2 ⟨A2, c2, rfl, -, hb⟩; have H2 := jI hb; clear hb))
     go_ret
     exact ⟨rfl, HE.out.trans (H2.out.mono HE.out.size)⟩
 · have kb : (k != 2) = true := by simpa using kk
   obtain rfl : b = false := by rw [hbe, decide_eq_false kk]; rfl
   clear hf3 hbe CD
   go_enter Tryz.func119, Tryz.ntmps119
   go_upto_region 1 with fail
   rw [← HW.out.1, ← HW.out.2]
   go_wp2_with fail
   go_ret
   exact ⟨rfl, HE.out⟩
structure BadR (l : List En) (r : Int) : Prop where
 none_ : l.all okM = true → r = -1
 some_ : l.all okM = false → 0 ≤ r
 at_ : ∀ j (hj : j < l.length), (∀ e ∈ l.take j, okM e = true) → okM l[j] = false → r = (j : Int)
theorem badR_ex : ∀ l : List En, ∃ r, BadR l r ∧ -1 ≤ r
 | [] => ⟨-1, ⟨fun _ => rfl, fun h => by simp at h, fun j hj => by simp at hj⟩, by omega⟩
 | x :: l => by
   obtain ⟨r, h, hr⟩ := badR_ex l
   cases hx : okM x with
   | false =>
     refine ⟨0, ⟨fun h0 => by simp [hx] at h0, fun _ => by omega, fun j hj ht _ => ?_⟩, by omega⟩
     match j with
     | 0 => rfl
     | j + 1 => have := ht x (by simp); rw [hx] at this; cases this
   | true =>
     have hall : (x :: l).all okM = l.all okM := by simp [hx]
     cases hl : l.all okM with
     | true => refine ⟨-1, ⟨fun _ => rfl, fun h0 => (by rw [hall, hl] at h0; cases h0), fun j hj ht hf => ?_⟩, by omega⟩
               rw [List.all_eq_true] at hl
               match j with
               | 0 => simp only [List.getElem_cons_zero] at hf; rw [hx] at hf; cases hf
               | j + 1 => simp only [List.getElem_cons_succ] at hf; rw [hl _ (List.getElem_mem _)] at hf; cases hf
     | false =>
       refine ⟨r + 1, ⟨fun h0 => (by rw [hall, hl] at h0; cases h0), fun _ => by have := h.some_ hl; omega, fun j hj ht hf => ?_⟩, by omega⟩
       match j with
       | 0 => simp only [List.getElem_cons_zero] at hf; rw [hx] at hf; cases hf
       | j + 1 =>
         simp only [List.getElem_cons_succ] at hf
         have := h.at_ j (by simpa using hj) (fun e he => ht e (by simp [he])) hf
         rw [this]
         rfl
set_option maxHeartbeats 4000000 in
theorem IdxR_any (A : Option Addr) (n c : Nat) (l : List En) (w : World) (hs : StdP w) (h : Ents w (.slice A n c) l) (hsm : SmallE 1000000 25663 l) (r : Int) (hr : BadR l r) :
   Calls Tryz.prog 132 #[.slice A n c, .func (.func 119) #[] #[]] w fun y w' => y = .returned (.int .i64 r) ∧ Below w.heap.size w w' := by
 have eg : ∀ args w, (callFunc 119 args).run Tryz.prog w = .ok (.enter 119 args) w := enters_of Tryz.func119 (by kernel_rfl) rfl
 obtain ⟨hn, hnc, hcm⟩ := h.len_
 have in1 : (n : Int) ≤ 9223372036854775807 := by omega
 have HH := jI (jA h (jA hn (jA hr (jA hsm hs))))
 clear h hn hnc hcm hr hsm hs
 go_enter Tryz.func132, Tryz.ntmps132
 go_wp2_with fail
 go_loopw [8] (fun ii wr => ∃ (j : Nat), j ≤ n ∧ ii = .int .i64 (j : Int) ∧ Hid (∀ e ∈ l.take j, okM e = true) ∧ Below w.heap.size w wr) (fun ii _ => n - (intOf ii).toNat)
 case atStart => exact ⟨0, Nat.zero_le _, rfl, jI (by simp), Below.refl _ _⟩
 case round =>
   obtain ⟨j, hj, rfl, HT, hbw⟩ := hrel
   by_cases hlt : j < n
   · have ii : (j : Int) < (n : Int) := by omega
     have hjl : j < l.length := by have := HH.out.2.1; omega
     obtain ⟨bk, off, Ad, cd, rfl, hbb, hok, q0, q1, q2, q3, hdat⟩ := (HH.out.1.below hbw).at_ j hjl
     have hsm := HH.out.2.2.2.1.2 _ (List.getElem_mem hjl)
     have hat := HH.out.2.2.1.at_ j hjl HT.out
     have htk : ∀ e ∈ l.take (j + 1), okM e = true ↔ (e ∈ l.take j ∨ e = l[j]) → okM e = true := fun e he => ⟨fun h _ => h, fun h => h (by rw [List.take_succ_eq_append_getElem hjl] at he; rcases List.mem_append.mp he with h1 | h1; exact Or.inl h1; exact Or.inr (List.mem_singleton.mp h1))⟩
     obtain ⟨e, he⟩ : ∃ e, e = l[j] := ⟨_, rfl⟩
     rw [← he] at hok q0 q1 q2 q3 hdat hsm hat
     obtain ⟨m, hm⟩ : ∃ m, m = e.data.length := ⟨_, rfl⟩
     rw [← hm] at q3 hdat hsm
     have HU := jI fun b hb => mislead_any e Ad m cd wr (HH.out.2.2.2.2.more hbw) hdat (by omega) b hb
     have HB := jI hbw
     cases hf : okM e with
     | false =>
       have hrj := jI (hat hf)
       have HU1 := jI (HU.out true (by rw [hf]; rfl))
       clear hat htk hdat hsm hok hm he hbw HU hbb hf
       go_wp2_with (go_at_fn 119; refine HU1.out.mono ?_; rintro y w' ⟨rfl, hb'⟩; have H1 := jI hb'; clear hb')
       go_ret
       exact ⟨by rw [hrj.out]; rfl, HB.out.trans (H1.out.mono HB.out.size)⟩
     | true =>
       have HT2 : Hid (∀ e ∈ l.take (j + 1), okM e = true) := jI fun x hx => (htk x hx).2 fun h => by
         rcases h with h | h
         · exact HT.out x h
         · rw [h, ← he]; exact hf
       have HU1 := jI (HU.out false (by rw [hf]; rfl))
       clear hat htk hdat hsm hok hm he hbw HU hbb hf
       go_wp2_with (go_at_fn 119; refine HU1.out.mono ?_; rintro y w' ⟨rfl, hb'⟩; have H1 := jI hb'; clear hb')
       go_roundw
       case rel => exact ⟨j + 1, by omega, by go_num, HT2, HB.out.trans (H1.out.mono HB.out.size)⟩
       case measure => simp [intOf]; omega
   · obtain rfl : j = n := by omega
     have ii : ¬ (j : Int) < (j : Int) := by omega
     have hm1 : r = -1 := HH.out.2.2.1.none_ (List.all_eq_true.2 fun e he => HT.out e (by rw [List.take_of_length_le (by have := HH.out.2.1; omega)]; exact he))
     have HM := jI hm1
     clear hm1
     go_wp2_with fail
     go_ret
     exact ⟨by rw [HM.out]; rfl, hbw⟩
set_option maxHeartbeats 2000000 in
theorem ContR_any (A : Option Addr) (n c : Nat) (l : List En) (w : World) (hs : StdP w) (h : Ents w (.slice A n c) l) (hsm : SmallE 1000000 25663 l) (b : Bool) (hb : b = !l.all okM) :
   Calls Tryz.prog 118 #[.slice A n c, .func (.func 119) #[] #[]] w fun y w' => y = .returned (.bool b) ∧ Below w.heap.size w w' := by
 obtain ⟨r, hr, hr1⟩ := badR_ex l
 have CI := jI (IdxR_any A n c l w hs h hsm r hr)
 have hcase : (r = -1 ∧ b = false) ∨ (0 ≤ r ∧ b = true) := by
   cases hl : l.all okM with
   | true => exact Or.inl ⟨hr.none_ hl, by rw [hb, hl]; rfl⟩
   | false => exact Or.inr ⟨hr.some_ hl, by rw [hb, hl]; rfl⟩
 clear hs h hsm hb hr
 rcases hcase with ⟨rfl, rfl⟩ | ⟨h0, rfl⟩
 all_goals
   go_enter Tryz.func118, Tryz.ntmps118
   go_wp2_with (go_at_call 132; go_must (refine CI.out.mono ?_; rintro y w1 ⟨rfl, hb⟩; have H1 := jI hb; clear hb))
   go_ret
   exact ⟨rfl, H1.out⟩
end
section
theorem any_okM (l : List En) : (!l.all okM) = l.any misE := by
 induction l with
 | nil => rfl
 | cons x r ih => simp only [List.all_cons, List.any_cons, Bool.not_and, ih]; unfold okM; simp
set_option maxHeartbeats 8000000 in
theorem rmay_any (s : St) (q : Pl) (w : World) (hs : StdP w) (hL : Inp s.log q.AL q.nL q.cL w) (hC : Ints w (.slice q.AC q.nC q.cC) s.conf) (hsm : SmallE 1000000 25663 s.log.l) :
   Calls Tryz.prog 102 #[stV s q] w fun e w' => e = .returned (.bool (mayS s)) ∧ Below w.heap.size w w' := by
 obtain ⟨W1, g, hW1, hg, hb1, hq1, hsz1⟩ := one_box w (.cells #[.int .i64 s.term, .int .i64 s.vote, .int .i64 s.log.base, .int .i64 s.log.term, .slice q.AL q.nL q.cL, .slice q.AC q.nC q.cC, .slice q.AS q.nS q.cS] 35)
 have HW := jI (jA hW1 hg)
 obtain ⟨k1, hk1⟩ : ∃ k, k = if mayE s.log = true then 0 else 1 := ⟨_, rfl⟩
 obtain ⟨k2, hk2⟩ : ∃ k, k = if mayC s.conf then 0 else 1 := ⟨_, rfl⟩
 obtain ⟨bb, hbb⟩ : ∃ b, b = s.log.l.any misE := ⟨_, rfl⟩
 obtain ⟨li, hli⟩ : ∃ li, li = (lastE s.log).1 := ⟨_, rfl⟩
 obtain ⟨lt, hlt⟩ : ∃ lt, lt = (lastE s.log).2 := ⟨_, rfl⟩
 have CE := jI ((hL.below hb1).check k1 hk1)
 have CC := jI fun W (hW : Below w.heap.size w W) => Check_own q.AC q.nC q.cC s.conf W (hC.below hW) k2 hk2
 have CF := jI fun W (hW : Below w.heap.size w W) => ContR_any q.AL q.nL q.cL s.log.l W (hs.more hW) (hL.below hW).e hsm bb (hbb.trans (any_okM _).symm)
 have CL := jI fun W (hW : Below w.heap.size w W) => Last_g s.log q.AL q.nL q.cL W (hL.below hW) (li, lt) (by rw [hli, hlt])
 have HE := jI (jA hb1 hq1)
 have HK := jI (jA hk1 (jA hk2 (jA hbb hlt.symm)))
 obtain ⟨z0, z1, z2, z3, z4, z5, z6⟩ := cells7 hq1
 clear hs hL hC hsm hW1 hg hb1 hq1 hsz1 hk1 hk2 hbb hli hlt
 unfold stV
 cases hE : mayE s.log with
 | false =>
   have HX := jI (show mayS s = false from by unfold mayS; rw [hE]; rfl)
   obtain rfl : k1 = 1 := by rw [HK.out.1, hE]; rfl
   clear hE
   go_enter Tryz.func102, Tryz.ntmps102
   go_upto_region 1 with fail
   rw [← HW.out.1, ← HW.out.2]
   go_wp2_with (first
     | (go_at_call 108; go_must (refine CE.out.mono ?_; clear CE; rintro y w1 ⟨rfl, hb1⟩; rw [er_ne (by decide)]; have zs := cells7 ((hb1.block g (obj_lt HE.out.2)).trans HE.out.2); obtain ⟨z0, z1, z2, z3, z4, z5, z6⟩ := zs; have H1 := jI (jA (HE.out.1.trans (hb1.mono HE.out.1.size)) ((hb1.block g (obj_lt HE.out.2)).trans HE.out.2)); clear hb1))
     | (go_at_call 14; go_must (refine (CC.out _ H1.out.1).mono ?_; clear CC z0 z1 z2 z3 z4 z5 z6; rintro y w2 ⟨rfl, hb2⟩; rw [er_zero]; obtain ⟨z0, z1, z2, z3, z4, z5, z6⟩ := cells7 ((hb2.block g (obj_lt H1.out.2)).trans H1.out.2); have H2 := jI (jA (H1.out.1.trans (hb2.mono H1.out.1.size)) ((hb2.block g (obj_lt H1.out.2)).trans H1.out.2)); clear hb2))
     | (go_at_call 118; go_must (refine (CF.out _ H2.out.1).mono ?_; clear CF z0 z1 z2 z3 z4 z5 z6; rintro y w3 ⟨rfl, hb3⟩; obtain ⟨z0, z1, z2, z3, z4, z5, z6⟩ := cells7 ((hb3.block g (obj_lt H2.out.2)).trans H2.out.2); have H3 := jI (jA (H2.out.1.trans (hb3.mono H2.out.1.size)) ((hb3.block g (obj_lt H2.out.2)).trans H2.out.2)); clear hb3))
     | (go_at_call 120; go_must (refine (CL.out _ H3.out.1).mono ?_; clear CL z0 z1 z2 z3 z4 z5 z6; rintro y w4 ⟨rfl, hb4⟩; obtain ⟨z0, z1, z2, z3, z4, z5, z6⟩ := cells7 ((hb4.block g (obj_lt H3.out.2)).trans H3.out.2); have H4 := jI (jA (H3.out.1.trans (hb4.mono H3.out.1.size)) ((hb4.block g (obj_lt H3.out.2)).trans H3.out.2)); clear hb4))
     | fail)
   go_ret
   rw [HX.out]
   exact ⟨by first | rfl | (simp; omega), H1.out.1⟩
 | true =>
 obtain rfl : k1 = 0 := by rw [HK.out.1, hE]; rfl
 cases hCc : mayC s.conf with
 | false =>
   have HX := jI (show mayS s = false from by unfold mayS; rw [hE, hCc]; rfl)
   obtain rfl : k2 = 1 := by rw [HK.out.2.1, hCc]; rfl
   clear hE hCc
   go_enter Tryz.func102, Tryz.ntmps102
   go_upto_region 1 with fail
   rw [← HW.out.1, ← HW.out.2]
   go_wp2_with (first
     | (go_at_call 108; go_must (refine CE.out.mono ?_; clear CE; rintro y w1 ⟨rfl, hb1⟩; rw [er_zero]; have zs := cells7 ((hb1.block g (obj_lt HE.out.2)).trans HE.out.2); obtain ⟨z0, z1, z2, z3, z4, z5, z6⟩ := zs; have H1 := jI (jA (HE.out.1.trans (hb1.mono HE.out.1.size)) ((hb1.block g (obj_lt HE.out.2)).trans HE.out.2)); clear hb1))
     | (go_at_call 14; go_must (refine (CC.out _ H1.out.1).mono ?_; clear CC z0 z1 z2 z3 z4 z5 z6; rintro y w2 ⟨rfl, hb2⟩; rw [er_ne (by decide)]; obtain ⟨z0, z1, z2, z3, z4, z5, z6⟩ := cells7 ((hb2.block g (obj_lt H1.out.2)).trans H1.out.2); have H2 := jI (jA (H1.out.1.trans (hb2.mono H1.out.1.size)) ((hb2.block g (obj_lt H1.out.2)).trans H1.out.2)); clear hb2))
     | (go_at_call 118; go_must (refine (CF.out _ H2.out.1).mono ?_; clear CF z0 z1 z2 z3 z4 z5 z6; rintro y w3 ⟨rfl, hb3⟩; obtain ⟨z0, z1, z2, z3, z4, z5, z6⟩ := cells7 ((hb3.block g (obj_lt H2.out.2)).trans H2.out.2); have H3 := jI (jA (H2.out.1.trans (hb3.mono H2.out.1.size)) ((hb3.block g (obj_lt H2.out.2)).trans H2.out.2)); clear hb3))
     | (go_at_call 120; go_must (refine (CL.out _ H3.out.1).mono ?_; clear CL z0 z1 z2 z3 z4 z5 z6; rintro y w4 ⟨rfl, hb4⟩; obtain ⟨z0, z1, z2, z3, z4, z5, z6⟩ := cells7 ((hb4.block g (obj_lt H3.out.2)).trans H3.out.2); have H4 := jI (jA (H3.out.1.trans (hb4.mono H3.out.1.size)) ((hb4.block g (obj_lt H3.out.2)).trans H3.out.2)); clear hb4))
     | fail)
   go_ret
   rw [HX.out]
   exact ⟨by first | rfl | (simp; omega), H2.out.1⟩
 | true =>
 obtain rfl : k2 = 0 := by rw [HK.out.2.1, hCc]; rfl
 cases hB : bb with
 | true =>
   have HX := jI (show mayS s = false from by unfold mayS; rw [hE, hCc, ← HK.out.2.2.1, hB]; rfl)
   subst hB
   clear hE hCc
   go_enter Tryz.func102, Tryz.ntmps102
   go_upto_region 1 with fail
   rw [← HW.out.1, ← HW.out.2]
   go_wp2_with (first
     | (go_at_call 108; go_must (refine CE.out.mono ?_; clear CE; rintro y w1 ⟨rfl, hb1⟩; rw [er_zero]; have zs := cells7 ((hb1.block g (obj_lt HE.out.2)).trans HE.out.2); obtain ⟨z0, z1, z2, z3, z4, z5, z6⟩ := zs; have H1 := jI (jA (HE.out.1.trans (hb1.mono HE.out.1.size)) ((hb1.block g (obj_lt HE.out.2)).trans HE.out.2)); clear hb1))
     | (go_at_call 14; go_must (refine (CC.out _ H1.out.1).mono ?_; clear CC z0 z1 z2 z3 z4 z5 z6; rintro y w2 ⟨rfl, hb2⟩; rw [er_zero]; obtain ⟨z0, z1, z2, z3, z4, z5, z6⟩ := cells7 ((hb2.block g (obj_lt H1.out.2)).trans H1.out.2); have H2 := jI (jA (H1.out.1.trans (hb2.mono H1.out.1.size)) ((hb2.block g (obj_lt H1.out.2)).trans H1.out.2)); clear hb2))
     | (go_at_call 118; go_must (refine (CF.out _ H2.out.1).mono ?_; clear CF z0 z1 z2 z3 z4 z5 z6; rintro y w3 ⟨rfl, hb3⟩; obtain ⟨z0, z1, z2, z3, z4, z5, z6⟩ := cells7 ((hb3.block g (obj_lt H2.out.2)).trans H2.out.2); have H3 := jI (jA (H2.out.1.trans (hb3.mono H2.out.1.size)) ((hb3.block g (obj_lt H2.out.2)).trans H2.out.2)); clear hb3))
     | (go_at_call 120; go_must (refine (CL.out _ H3.out.1).mono ?_; clear CL z0 z1 z2 z3 z4 z5 z6; rintro y w4 ⟨rfl, hb4⟩; obtain ⟨z0, z1, z2, z3, z4, z5, z6⟩ := cells7 ((hb4.block g (obj_lt H3.out.2)).trans H3.out.2); have H4 := jI (jA (H3.out.1.trans (hb4.mono H3.out.1.size)) ((hb4.block g (obj_lt H3.out.2)).trans H3.out.2)); clear hb4))
     | fail)
   go_ret
   rw [HX.out]
   exact ⟨by first | rfl | (simp; omega), H3.out.1⟩
 | false =>
 have hS : mayS s = decide (lt ≤ s.term ∧ s.term ≤ 1099511627776 ∧ 0 ≤ s.vote ∧ s.vote ≤ 64) := by unfold mayS; rw [hE, hCc, ← HK.out.2.2.1, hB, HK.out.2.2.2]; rfl
 subst hB
 clear hE hCc
 by_cases d0 : s.term ≥ lt
 rotate_left
 · have HX := jI (hS.trans (decide_eq_false (fun e => by omega)))
   clear hS
   go_enter Tryz.func102, Tryz.ntmps102
   go_upto_region 1 with fail
   rw [← HW.out.1, ← HW.out.2]
   go_wp2_with (first
     | (go_at_call 108; go_must (refine CE.out.mono ?_; clear CE; rintro y w1 ⟨rfl, hb1⟩; rw [er_zero]; have zs := cells7 ((hb1.block g (obj_lt HE.out.2)).trans HE.out.2); obtain ⟨z0, z1, z2, z3, z4, z5, z6⟩ := zs; have H1 := jI (jA (HE.out.1.trans (hb1.mono HE.out.1.size)) ((hb1.block g (obj_lt HE.out.2)).trans HE.out.2)); clear hb1))
     | (go_at_call 14; go_must (refine (CC.out _ H1.out.1).mono ?_; clear CC z0 z1 z2 z3 z4 z5 z6; rintro y w2 ⟨rfl, hb2⟩; rw [er_zero]; obtain ⟨z0, z1, z2, z3, z4, z5, z6⟩ := cells7 ((hb2.block g (obj_lt H1.out.2)).trans H1.out.2); have H2 := jI (jA (H1.out.1.trans (hb2.mono H1.out.1.size)) ((hb2.block g (obj_lt H1.out.2)).trans H1.out.2)); clear hb2))
     | (go_at_call 118; go_must (refine (CF.out _ H2.out.1).mono ?_; clear CF z0 z1 z2 z3 z4 z5 z6; rintro y w3 ⟨rfl, hb3⟩; obtain ⟨z0, z1, z2, z3, z4, z5, z6⟩ := cells7 ((hb3.block g (obj_lt H2.out.2)).trans H2.out.2); have H3 := jI (jA (H2.out.1.trans (hb3.mono H2.out.1.size)) ((hb3.block g (obj_lt H2.out.2)).trans H2.out.2)); clear hb3))
     | (go_at_call 120; go_must (refine (CL.out _ H3.out.1).mono ?_; clear CL z0 z1 z2 z3 z4 z5 z6; rintro y w4 ⟨rfl, hb4⟩; obtain ⟨z0, z1, z2, z3, z4, z5, z6⟩ := cells7 ((hb4.block g (obj_lt H3.out.2)).trans H3.out.2); have H4 := jI (jA (H3.out.1.trans (hb4.mono H3.out.1.size)) ((hb4.block g (obj_lt H3.out.2)).trans H3.out.2)); clear hb4))
     | fail)
   go_ret
   rw [HX.out]
   exact ⟨by first | rfl | (simp; omega), H4.out.1⟩
 by_cases d1 : s.term ≤ 1099511627776
 rotate_left
 · have HX := jI (hS.trans (decide_eq_false (fun e => by omega)))
   clear hS
   go_enter Tryz.func102, Tryz.ntmps102
   go_upto_region 1 with fail
   rw [← HW.out.1, ← HW.out.2]
   go_wp2_with (first
     | (go_at_call 108; go_must (refine CE.out.mono ?_; clear CE; rintro y w1 ⟨rfl, hb1⟩; rw [er_zero]; have zs := cells7 ((hb1.block g (obj_lt HE.out.2)).trans HE.out.2); obtain ⟨z0, z1, z2, z3, z4, z5, z6⟩ := zs; have H1 := jI (jA (HE.out.1.trans (hb1.mono HE.out.1.size)) ((hb1.block g (obj_lt HE.out.2)).trans HE.out.2)); clear hb1))
     | (go_at_call 14; go_must (refine (CC.out _ H1.out.1).mono ?_; clear CC z0 z1 z2 z3 z4 z5 z6; rintro y w2 ⟨rfl, hb2⟩; rw [er_zero]; obtain ⟨z0, z1, z2, z3, z4, z5, z6⟩ := cells7 ((hb2.block g (obj_lt H1.out.2)).trans H1.out.2); have H2 := jI (jA (H1.out.1.trans (hb2.mono H1.out.1.size)) ((hb2.block g (obj_lt H1.out.2)).trans H1.out.2)); clear hb2))
     | (go_at_call 118; go_must (refine (CF.out _ H2.out.1).mono ?_; clear CF z0 z1 z2 z3 z4 z5 z6; rintro y w3 ⟨rfl, hb3⟩; obtain ⟨z0, z1, z2, z3, z4, z5, z6⟩ := cells7 ((hb3.block g (obj_lt H2.out.2)).trans H2.out.2); have H3 := jI (jA (H2.out.1.trans (hb3.mono H2.out.1.size)) ((hb3.block g (obj_lt H2.out.2)).trans H2.out.2)); clear hb3))
     | (go_at_call 120; go_must (refine (CL.out _ H3.out.1).mono ?_; clear CL z0 z1 z2 z3 z4 z5 z6; rintro y w4 ⟨rfl, hb4⟩; obtain ⟨z0, z1, z2, z3, z4, z5, z6⟩ := cells7 ((hb4.block g (obj_lt H3.out.2)).trans H3.out.2); have H4 := jI (jA (H3.out.1.trans (hb4.mono H3.out.1.size)) ((hb4.block g (obj_lt H3.out.2)).trans H3.out.2)); clear hb4))
     | fail)
   go_ret
   rw [HX.out]
   exact ⟨by first | rfl | (simp; omega), H4.out.1⟩
 by_cases d2 : s.vote ≥ 0
 rotate_left
 · have HX := jI (hS.trans (decide_eq_false (fun e => by omega)))
   clear hS
   go_enter Tryz.func102, Tryz.ntmps102
   go_upto_region 1 with fail
   rw [← HW.out.1, ← HW.out.2]
   go_wp2_with (first
     | (go_at_call 108; go_must (refine CE.out.mono ?_; clear CE; rintro y w1 ⟨rfl, hb1⟩; rw [er_zero]; have zs := cells7 ((hb1.block g (obj_lt HE.out.2)).trans HE.out.2); obtain ⟨z0, z1, z2, z3, z4, z5, z6⟩ := zs; have H1 := jI (jA (HE.out.1.trans (hb1.mono HE.out.1.size)) ((hb1.block g (obj_lt HE.out.2)).trans HE.out.2)); clear hb1))
     | (go_at_call 14; go_must (refine (CC.out _ H1.out.1).mono ?_; clear CC z0 z1 z2 z3 z4 z5 z6; rintro y w2 ⟨rfl, hb2⟩; rw [er_zero]; obtain ⟨z0, z1, z2, z3, z4, z5, z6⟩ := cells7 ((hb2.block g (obj_lt H1.out.2)).trans H1.out.2); have H2 := jI (jA (H1.out.1.trans (hb2.mono H1.out.1.size)) ((hb2.block g (obj_lt H1.out.2)).trans H1.out.2)); clear hb2))
     | (go_at_call 118; go_must (refine (CF.out _ H2.out.1).mono ?_; clear CF z0 z1 z2 z3 z4 z5 z6; rintro y w3 ⟨rfl, hb3⟩; obtain ⟨z0, z1, z2, z3, z4, z5, z6⟩ := cells7 ((hb3.block g (obj_lt H2.out.2)).trans H2.out.2); have H3 := jI (jA (H2.out.1.trans (hb3.mono H2.out.1.size)) ((hb3.block g (obj_lt H2.out.2)).trans H2.out.2)); clear hb3))
     | (go_at_call 120; go_must (refine (CL.out _ H3.out.1).mono ?_; clear CL z0 z1 z2 z3 z4 z5 z6; rintro y w4 ⟨rfl, hb4⟩; obtain ⟨z0, z1, z2, z3, z4, z5, z6⟩ := cells7 ((hb4.block g (obj_lt H3.out.2)).trans H3.out.2); have H4 := jI (jA (H3.out.1.trans (hb4.mono H3.out.1.size)) ((hb4.block g (obj_lt H3.out.2)).trans H3.out.2)); clear hb4))
     | fail)
   go_ret
   rw [HX.out]
   exact ⟨by first | rfl | (simp; omega), H4.out.1⟩
 by_cases d3 : s.vote ≤ 64
 rotate_left
 · have HX := jI (hS.trans (decide_eq_false (fun e => by omega)))
   clear hS
   go_enter Tryz.func102, Tryz.ntmps102
   go_upto_region 1 with fail
   rw [← HW.out.1, ← HW.out.2]
   go_wp2_with (first
     | (go_at_call 108; go_must (refine CE.out.mono ?_; clear CE; rintro y w1 ⟨rfl, hb1⟩; rw [er_zero]; have zs := cells7 ((hb1.block g (obj_lt HE.out.2)).trans HE.out.2); obtain ⟨z0, z1, z2, z3, z4, z5, z6⟩ := zs; have H1 := jI (jA (HE.out.1.trans (hb1.mono HE.out.1.size)) ((hb1.block g (obj_lt HE.out.2)).trans HE.out.2)); clear hb1))
     | (go_at_call 14; go_must (refine (CC.out _ H1.out.1).mono ?_; clear CC z0 z1 z2 z3 z4 z5 z6; rintro y w2 ⟨rfl, hb2⟩; rw [er_zero]; obtain ⟨z0, z1, z2, z3, z4, z5, z6⟩ := cells7 ((hb2.block g (obj_lt H1.out.2)).trans H1.out.2); have H2 := jI (jA (H1.out.1.trans (hb2.mono H1.out.1.size)) ((hb2.block g (obj_lt H1.out.2)).trans H1.out.2)); clear hb2))
     | (go_at_call 118; go_must (refine (CF.out _ H2.out.1).mono ?_; clear CF z0 z1 z2 z3 z4 z5 z6; rintro y w3 ⟨rfl, hb3⟩; obtain ⟨z0, z1, z2, z3, z4, z5, z6⟩ := cells7 ((hb3.block g (obj_lt H2.out.2)).trans H2.out.2); have H3 := jI (jA (H2.out.1.trans (hb3.mono H2.out.1.size)) ((hb3.block g (obj_lt H2.out.2)).trans H2.out.2)); clear hb3))
     | (go_at_call 120; go_must (refine (CL.out _ H3.out.1).mono ?_; clear CL z0 z1 z2 z3 z4 z5 z6; rintro y w4 ⟨rfl, hb4⟩; obtain ⟨z0, z1, z2, z3, z4, z5, z6⟩ := cells7 ((hb4.block g (obj_lt H3.out.2)).trans H3.out.2); have H4 := jI (jA (H3.out.1.trans (hb4.mono H3.out.1.size)) ((hb4.block g (obj_lt H3.out.2)).trans H3.out.2)); clear hb4))
     | fail)
   go_ret
   rw [HX.out]
   exact ⟨by first | rfl | (simp; omega), H4.out.1⟩
 have HX := jI (hS.trans (decide_eq_true ⟨d0, d1, d2, d3⟩))
 clear hS
 go_enter Tryz.func102, Tryz.ntmps102
 go_upto_region 1 with fail
 rw [← HW.out.1, ← HW.out.2]
 go_wp2_with (first
   | (go_at_call 108; go_must (refine CE.out.mono ?_; clear CE; rintro y w1 ⟨rfl, hb1⟩; rw [er_zero]; have zs := cells7 ((hb1.block g (obj_lt HE.out.2)).trans HE.out.2); obtain ⟨z0, z1, z2, z3, z4, z5, z6⟩ := zs; have H1 := jI (jA (HE.out.1.trans (hb1.mono HE.out.1.size)) ((hb1.block g (obj_lt HE.out.2)).trans HE.out.2)); clear hb1))
   | (go_at_call 14; go_must (refine (CC.out _ H1.out.1).mono ?_; clear CC z0 z1 z2 z3 z4 z5 z6; rintro y w2 ⟨rfl, hb2⟩; rw [er_zero]; obtain ⟨z0, z1, z2, z3, z4, z5, z6⟩ := cells7 ((hb2.block g (obj_lt H1.out.2)).trans H1.out.2); have H2 := jI (jA (H1.out.1.trans (hb2.mono H1.out.1.size)) ((hb2.block g (obj_lt H1.out.2)).trans H1.out.2)); clear hb2))
   | (go_at_call 118; go_must (refine (CF.out _ H2.out.1).mono ?_; clear CF z0 z1 z2 z3 z4 z5 z6; rintro y w3 ⟨rfl, hb3⟩; obtain ⟨z0, z1, z2, z3, z4, z5, z6⟩ := cells7 ((hb3.block g (obj_lt H2.out.2)).trans H2.out.2); have H3 := jI (jA (H2.out.1.trans (hb3.mono H2.out.1.size)) ((hb3.block g (obj_lt H2.out.2)).trans H2.out.2)); clear hb3))
   | (go_at_call 120; go_must (refine (CL.out _ H3.out.1).mono ?_; clear CL z0 z1 z2 z3 z4 z5 z6; rintro y w4 ⟨rfl, hb4⟩; obtain ⟨z0, z1, z2, z3, z4, z5, z6⟩ := cells7 ((hb4.block g (obj_lt H3.out.2)).trans H3.out.2); have H4 := jI (jA (H3.out.1.trans (hb4.mono H3.out.1.size)) ((hb4.block g (obj_lt H3.out.2)).trans H3.out.2)); clear hb4))
   | fail)
 go_ret
 rw [HX.out]
 exact ⟨by first | rfl | (simp; omega), H4.out.1⟩
end
section
def born (id span : Int) (s : St) : Co := { id := id, span := span, s := s, role := 0, leader := 0, commit := s.log.base, round := 0, gone := 0, wait := 0, votes := [], known := [], key := 0, hav := [] }
theorem mayS_iff {s : St} : mayS s = true ↔ mayE s.log = true ∧ mayC s.conf = true ∧ s.log.l.any misE = false ∧ ((lastE s.log).2 ≤ s.term ∧ s.term ≤ 1099511627776 ∧ 0 ≤ s.vote ∧ s.vote ≤ 64) := by
 unfold mayS
 simp only [Bool.and_eq_true, Bool.not_eq_true', decide_eq_true_eq]
 constructor
 · intro h; exact ⟨h.1.1.1, h.1.1.2, h.1.2, h.2⟩
 · intro h; exact ⟨⟨⟨h.1, h.2.1⟩, h.2.2.1⟩, h.2.2.2⟩
theorem last_bd2 {l : Lg} (h : mayE l = true) : 0 ≤ (lastE l).2 := by
 have h1 := may_ok h
 unfold lastE
 rw [if_pos h]
 unfold endE
 cases hl : l.l.getLast? with
 | none => have := h1.1; simp only; omega
 | some e =>
   have h2 := h1.2 e (List.mem_of_getLast? hl)
   simp only; omega
theorem wf_born {id span : Int} {s : St} (hi : 1 ≤ id ∧ id ≤ 64) (hp : 2 ≤ span ∧ span ≤ 1000) (hm : mayS s = true) (hn : s.snap.length ≤ 2000000) : Wf (born id span s) := by
 obtain ⟨h1, h2, h3, h4⟩ := mayS_iff.1 hm
 have h5 := last_bd2 h1
 have h6 := (may_ok h1).1
 exact ⟨hi, hp, h1, h2, h3, ⟨h4.1, by simp only [born]; omega, h4.2.1⟩, h4.2.2, hn, ⟨by simp [born], by simp [born]⟩, ⟨by simp [born], by simp [born]⟩, ⟨by simp [born], by simp only [born]; omega⟩, ⟨by simp [born], by simp [born]⟩, ⟨by simp [born], by simp [born]⟩, ⟨by simp [born], by simp [born]⟩, ⟨by simp [born], by simp [born]⟩, ⟨by simp [born], by simp [born]⟩, by unfold inI; simp [born], by simp [born]⟩
theorem okN_iff {id span : Int} {s : St} : okN id span s = true ↔ (1 ≤ id ∧ id ≤ 64) ∧ (2 ≤ span ∧ span ≤ 1000) ∧ mayS s = true := by
 unfold okN
 simp only [Bool.and_eq_true, decide_eq_true_eq]
 constructor
 · intro h; exact ⟨⟨h.1.1, h.1.2.1⟩, ⟨h.1.2.2.1, h.1.2.2.2⟩, h.2⟩
 · intro h; exact ⟨⟨h.1.1, h.1.2, h.2.1.1, h.2.1.2⟩, h.2.2⟩
def NewP (w : World) (U : Nat → Prop) (id span : Int) (s : St) (draw : Int) (e : Ending) (w' : World) : Prop :=
 Below w.heap.size w w' ∧ ((okN id span s = false ∧ e = .returned (.tuple #[.pointer none, er 1])) ∨
   (okN id span s = true ∧ ∃ p q', e = .returned (.tuple #[.pointer (some ⟨p, 0, none⟩), .nilIface]) ∧ w.heap.size ≤ p ∧ CB w' (fun k => k = p) (fun k => U k ∨ k = p) p (newC id span s draw) q'))
theorem CB.born {w w1 w2 W : World} {U : Nat → Prop} {id span : Int} {s : St} {q : Pl} (hg : 6 ≤ w.heap.size) (hU : ∀ k, U k → k < w.heap.size) (hw : w.heap.size ≤ w1.heap.size) (h : Fresh w1 w2 s q) (h12 : w1.heap.size ≤ w2.heap.size)
   (hW : W = w2.alloc (.cells (kCells (born id span s) { q with AV := none, nV := 0, cV := 0, mp := none, AH := none, nH := 0, cH := 0 }) 205)) :
   CB W (fun k => k = w2.heap.size) (fun k => U k ∨ k = w2.heap.size) w2.heap.size (born id span s) { q with AV := none, nV := 0, cV := 0, mp := none, AH := none, nH := 0, cH := 0 } := by
 have hs : W.heap.size = w2.heap.size + 1 := by rw [hW, World.size_alloc]
 have ha : ∀ k, (w1.heap.size ≤ k ∧ k < w2.heap.size) → k < w2.heap.size → W.heap[k]? = w2.heap[k]? := fun k _ hk => by rw [hW]; exact heap_alloc_old _ _ hk
 have hm : ∀ k, (w1.heap.size ≤ k ∧ k < w2.heap.size) → Av W (fun k => U k ∨ k = w2.heap.size) k := fun k hk => ⟨by have := hk.2; omega, fun e => e.elim (fun e => by have := hU k e; have := hk.1; omega) fun e => by have := hk.2; omega⟩
 refine ⟨by rw [hW]; exact heap_alloc_new _ _, rfl, fun k hk => Or.inr hk, fun k hk => by omega, fun k hk => hk.elim (fun hk => by have := hU k hk; omega) fun e => by omega, h.ents.move ha hm, (RowT.kept h.conf ha).mono hm, (h.snap.kept ha).mono hm, SlT.nil_ _ _, World.ownsRow_nil _ _ _ _, rfl, (fun g hg => by cases hg), (fun e => by have e : (0 : Int) = 2 := e; omega), Or.inl ⟨rfl, rfl⟩⟩
set_option maxHeartbeats 16000000 in
theorem New13_any (U : Nat → Prop) (id span : Int) (s : St) (q : Pl) (draw : Int) (w : World) (hU : ∀ k, U k → k < w.heap.size) (hs : StdP w) (hL : Inp s.log q.AL q.nL q.cL w) (hC : Ints w (.slice q.AC q.nC q.cC) s.conf) (hS : Bys w (.slice q.AS q.nS q.cS) s.snap) (hsm : SmallE 1000000 25663 s.log.l) (hsn : s.snap.length ≤ 2000000) :
   Calls Tryz.prog 69 #[.int .i64 id, .int .i64 span, stV s q, .int .i64 draw] w (NewP w U id span s draw) := by
 obtain ⟨W1, g, hW1, hg, hb1, hq1, hsz1⟩ := one_box w (.cells #[.int .i64 s.term, .int .i64 s.vote, .int .i64 s.log.base, .int .i64 s.log.term, .slice q.AL q.nL q.cL, .slice q.AC q.nC q.cC, .slice q.AS q.nS q.cS] 35)
 have HW := jI (jA hW1 hg)
 obtain ⟨z0, z1, z2, z3, z4, z5, z6⟩ := cells7 hq1
 obtain ⟨mb, hmb⟩ : ∃ b, b = mayS s := ⟨_, rfl⟩
 have CM := rmay_any s q W1 (hs.more hb1) (hL.below hb1) (hC.below hb1) hsm
 rw [← hmb] at CM
 unfold stV at CM
 have CN := jI CM
 have HE := jI (jA hb1 (jA hq1 (jA hmb (jA hU (jA hs (jA hL (jA hC (jA hS hsn))))))))
 clear CM hW1 hg hb1 hq1 hsz1 hmb hU hs hL hC hS hsm hsn
 unfold stV
 have bad : ∀ w', Below w.heap.size w w' → okN id span s = false → NewP w U id span s draw (.returned (.tuple #[.pointer none, er 1])) w' := fun w' h1 h2 => ⟨h1, Or.inl ⟨h2, rfl⟩⟩
 have HBad := jI bad
 clear bad
 by_cases c1 : id < 1
 · have hx := jI (show okN id span s = false from by cases h : okN id span s with | false => rfl | true => have := okN_iff.1 h; omega)
   go_enter Tryz.func69, Tryz.ntmps69
   go_upto_region 1 with fail
   rw [← HW.out.1, ← HW.out.2]
   go_wp2_with fail
   go_ret2
   exact HBad.out _ HE.out.1 hx.out
 by_cases c2 : id > 64
 · have hx := jI (show okN id span s = false from by cases h : okN id span s with | false => rfl | true => have := okN_iff.1 h; omega)
   go_enter Tryz.func69, Tryz.ntmps69
   go_upto_region 1 with fail
   rw [← HW.out.1, ← HW.out.2]
   go_wp2_with fail
   go_ret2
   exact HBad.out _ HE.out.1 hx.out
 by_cases c3 : span < 2
 · have hx := jI (show okN id span s = false from by cases h : okN id span s with | false => rfl | true => have := okN_iff.1 h; omega)
   go_enter Tryz.func69, Tryz.ntmps69
   go_upto_region 1 with fail
   rw [← HW.out.1, ← HW.out.2]
   go_wp2_with fail
   go_ret2
   exact HBad.out _ HE.out.1 hx.out
 by_cases c4 : span > 1000
 · have hx := jI (show okN id span s = false from by cases h : okN id span s with | false => rfl | true => have := okN_iff.1 h; omega)
   go_enter Tryz.func69, Tryz.ntmps69
   go_upto_region 1 with fail
   rw [← HW.out.1, ← HW.out.2]
   go_wp2_with fail
   go_ret2
   exact HBad.out _ HE.out.1 hx.out
 cases hmv : mb with
 | false =>
   have hx := jI (show okN id span s = false from by cases h : okN id span s with | false => rfl | true => have := (okN_iff.1 h).2.2; rw [← HE.out.2.2.1, hmv] at this; cases this)
   subst hmv
   go_enter Tryz.func69, Tryz.ntmps69
   go_upto_region 1 with fail
   rw [← HW.out.1, ← HW.out.2]
   go_wp2_with (go_at_call 102; go_must (refine CN.out.mono ?_; clear CN; rintro y w2 ⟨rfl, hb2⟩; have H2 := jI (HE.out.1.trans (hb2.mono HE.out.1.size)); clear hb2))
   go_ret2
   exact HBad.out _ H2.out hx.out
 | true =>
   have hmy : mayS s = true := by rw [← HE.out.2.2.1]; exact hmv
   have hx := jI (show okN id span s = true from okN_iff.2 ⟨⟨by omega, by omega⟩, ⟨by omega, by omega⟩, hmy⟩)
   obtain ⟨h1, h2, -, -⟩ := mayS_iff.1 hmy
   have CCo := jI fun W (hW : Below w.heap.size w W) => rcopied_any s q W (HE.out.2.2.2.2.2.1.below hW) (HE.out.2.2.2.2.2.2.1.below hW) (HE.out.2.2.2.2.2.2.2.1.below hW) h1 h2 HE.out.2.2.2.2.2.2.2.2
   have HWf := jI (wf_born (id := id) (span := span) (s := s) ⟨by omega, by omega⟩ ⟨by omega, by omega⟩ hmy HE.out.2.2.2.2.2.2.2.2)
   subst hmv
   clear h1 h2 hmy
   go_enter Tryz.func69, Tryz.ntmps69
   go_upto_region 1 with fail
   rw [← HW.out.1, ← HW.out.2]
   go_upto_region 3 with (go_at_call 102; go_must (refine CN.out.mono ?_; clear CN; rintro y w2 ⟨rfl, hb2⟩; have H2 := jI (jA (HE.out.1.trans (hb2.mono HE.out.1.size)) ((hb2.block g (obj_lt HE.out.2.1)).trans HE.out.2.1)); clear hb2))
   clear z0 z1 z2 z3 z4 z5 z6
   have HM := jI fun W (hW : Below w2.heap.size w2 W) => cells7 ((hW.block g (obj_lt H2.out.2)).trans H2.out.2)
   refine wp_region_held_drew (S := fun W => Below w2.heap.size w2 W) (by kernel_rfl) (Below.refl _ w2).drew (fun hHeld => ?_)
   refine wpAnyH_take (i := 0) (oi := { dst := Option.some 31, op := Op.move (Operand.tmp 0), type := 3, pos := "raft.go:57", after := #[], guard := Option.none }) (v := .int .i64 id) rfl (by kernel_rfl) (by kernel_rfl) (by kernel_rfl) (fun _ _ _ h => h) (Or.inl ⟨by rfl, ?_⟩) hHeld ?_
   · intro W hSw
     obtain ⟨z0, z1, z2, z3, z4, z5, z6⟩ := HM.out _ hSw
     go_simp
   simp only [Act.put, qA, qB, qC]
   refine wpAnyH_take (i := 1) (oi := { dst := Option.some 32, op := Op.move (Operand.tmp 1), type := 3, pos := "raft.go:57", after := #[], guard := Option.none }) (v := .int .i64 span) rfl (by kernel_rfl) (by kernel_rfl) (by kernel_rfl) (fun _ _ _ h => h) (Or.inl ⟨by rfl, ?_⟩) hHeld ?_
   · intro W hSw
     obtain ⟨z0, z1, z2, z3, z4, z5, z6⟩ := HM.out _ hSw
     go_simp
   simp only [Act.put, qA, qB, qC]
   refine wpAnyH_take (i := 2) (oi := { dst := Option.some 33, op := Op.load 35 (Operand.tmp 6), type := 35, pos := "raft.go:57", after := #[], guard := Option.none }) (v := .agg #[.int .i64 s.term, .int .i64 s.vote, .int .i64 s.log.base, .int .i64 s.log.term, .slice q.AL q.nL q.cL, .slice q.AC q.nC q.cC, .slice q.AS q.nS q.cS]) rfl (by kernel_rfl) (by kernel_rfl) (by kernel_rfl) (fun _ _ _ h => h) (Or.inl ⟨by rfl, ?_⟩) hHeld ?_
   · intro W hSw
     obtain ⟨z0, z1, z2, z3, z4, z5, z6⟩ := HM.out _ hSw
     go_simp
   simp only [Act.put, qA, qB, qC]
   refine wpAnyH_take (i := 4) (oi := { dst := Option.some 35, op := Op.fieldAddr 35 (Operand.tmp 6) 2, type := 0, pos := "raft.go:57", after := #[], guard := Option.none }) (v := .pointer (some ⟨g, 2, none⟩)) rfl (by kernel_rfl) (by kernel_rfl) (by kernel_rfl) (fun _ _ _ h => h) (Or.inl ⟨by rfl, ?_⟩) hHeld ?_
   · intro W hSw
     obtain ⟨z0, z1, z2, z3, z4, z5, z6⟩ := HM.out _ hSw
     go_simp
   simp only [Act.put, qA, qB, qC]
   refine wpAnyH_take (i := 5) (oi := { dst := Option.some 36, op := Op.fieldAddr 31 (Operand.tmp 35) 0, type := 0, pos := "raft.go:57", after := #[{ on := 4, ground := Ground.data }], guard := Option.none }) (v := .pointer (some ⟨g, 2, none⟩)) rfl (by kernel_rfl) (by kernel_rfl) (by kernel_rfl) (fun _ _ _ h => h) (Or.inl ⟨by rfl, ?_⟩) hHeld ?_
   · intro W hSw
     obtain ⟨z0, z1, z2, z3, z4, z5, z6⟩ := HM.out _ hSw
     go_simp
   simp only [Act.put, qA, qB, qC]
   refine wpAnyH_take (i := 6) (oi := { dst := Option.some 37, op := Op.load 3 (Operand.tmp 36), type := 3, pos := "raft.go:57", after := #[{ on := 5, ground := Ground.data }], guard := Option.none }) (v := .int .i64 s.log.base) rfl (by kernel_rfl) (by kernel_rfl) (by kernel_rfl) (fun _ _ _ h => h) (Or.inl ⟨by rfl, ?_⟩) hHeld ?_
   · intro W hSw
     obtain ⟨z0, z1, z2, z3, z4, z5, z6⟩ := HM.out _ hSw
     go_simp
   simp only [Act.put, qA, qB, qC]
   refine wpAnyH_take (i := 7) (oi := { dst := Option.some 38, op := Op.build 201 #[(2, Operand.tmp 37)], type := 201, pos := "raft.go:57", after := #[{ on := 6, ground := Ground.data }], guard := Option.none }) (v := .agg #[.int .i64 0, .int .i64 0, .int .i64 s.log.base, .int .i64 0]) rfl (by kernel_rfl) (by kernel_rfl) (by kernel_rfl) (fun _ _ _ h => h) (Or.inl ⟨by rfl, ?_⟩) hHeld ?_
   · intro W hSw
     obtain ⟨z0, z1, z2, z3, z4, z5, z6⟩ := HM.out _ hSw
     go_simp
   simp only [Act.put, qA, qB, qC]
   refine wpAnyH_ready (rs := [3]) (by kernel_rfl) (by simp) ?_
   refine AllReadyH.cons (o := { dst := Option.some 34, op := Op.call { callee := Callee.value (Operand.func 103), args := #[Operand.tmp 33], argTypes := #[35] }, type := 35, pos := "raft.go:57", after := #[{ on := 2, ground := Ground.data }], guard := Option.none }) rfl (fun K hK => ?_) AllReadyH.nil
   go_simp
   have hco := CCo.out w2.drew (H2.out.1.drew)
   unfold stV at hco
   refine hco.mono ?_
   clear hco
   rintro y w3 ⟨q', rfl, hfr, hb3⟩
   have B3 : Below w2.heap.size w2 w3 := (Below.refl _ w2).drew.trans hb3
   refine hK.out _ _ B3 (fun hHeld2 => ?_)
   have H3 := jI (jA hfr B3)
   clear hK K hHeld CCo hfr hb3
   have hHeld := hHeld2
   clear hHeld2
   refine wpAnyH_take (i := 8) (oi := { dst := Option.some 39, op := Op.build 205 #[(0, Operand.tmp 31), (1, Operand.tmp 32), (2, Operand.tmp 34), (3, Operand.tmp 38)], type := 205, pos := "raft.go:57", after := #[{ on := 0, ground := Ground.data }, { on := 1, ground := Ground.data }, { on := 3, ground := Ground.data }, { on := 7, ground := Ground.data }], guard := Option.none }) (v := .agg #[.int .i64 id, .int .i64 span, .int .i64 s.term, .int .i64 s.vote, .int .i64 s.log.base, .int .i64 s.log.term, .slice q'.AL q'.nL q'.cL, .slice q'.AC q'.nC q'.cC, .slice q'.AS q'.nS q'.cS, .int .i64 0, .int .i64 0, .int .i64 s.log.base, .int .i64 0, .int .i64 0, .int .i64 0, .slice none 0 0, .map none, .int .i64 0, .slice none 0 0]) rfl (by kernel_rfl) (by kernel_rfl) (by kernel_rfl) (fun _ _ _ h => h) (Or.inl ⟨by rfl, ?_⟩) hHeld ?_
   · intro W hSw
     go_simp
   simp only [Act.put, qA, qB, qC]
   refine wpAnyH_ready (rs := [9]) (by kernel_rfl) (by simp) ?_
   refine AllReadyH.cons (o := { dst := Option.some 40, op := Op.box 205 (Operand.tmp 39), type := 153, pos := "raft.go:57", after := #[{ on := 8, ground := Ground.data }], guard := Option.none }) rfl (fun K hK => ?_) AllReadyH.nil
   go_simp
   obtain ⟨W4, hW4⟩ : ∃ W, W = w3.alloc (.cells #[.int .i64 id, .int .i64 span, .int .i64 s.term, .int .i64 s.vote, .int .i64 s.log.base, .int .i64 s.log.term, .slice q'.AL q'.nL q'.cL, .slice q'.AC q'.nC q'.cC, .slice q'.AS q'.nS q'.cS, .int .i64 0, .int .i64 0, .int .i64 s.log.base, .int .i64 0, .int .i64 0, .int .i64 0, .slice none 0 0, .map none, .int .i64 0, .slice none 0 0] 205) := ⟨_, rfl⟩
   rw [← hW4]
   obtain ⟨p, hp⟩ : ∃ p, p = w3.heap.size := ⟨_, rfl⟩
   rw [← hp]
   have B4 : Below w2.heap.size w2 W4 := by rw [hW4]; exact B3.alloc B3.size _
   refine hK.out _ _ B4 (fun hHeld2 => ?_)
   have hcb := CB.born (w1 := w2.drew) (q := q') (id := id) (span := span) HE.out.2.2.2.2.1.std.size HE.out.2.2.2.1 H2.out.1.size H3.out.1 H3.out.2.size hW4
   rw [← hp] at hcb
   have H4 := jI (jA hcb (jA (H2.out.1.trans (B4.mono H2.out.1.size)) (show w.heap.size ≤ p from by have := H2.out.1.size; have := H3.out.2.size; omega)))
   clear hK K hHeld B4 B3 hcb hW4 hp
   have hHeld := hHeld2
   clear hHeld2
   refine wpAnyH_take (i := 10) (oi := { dst := Option.some 10, op := Op.assign (Operand.tmp 40), type := 153, pos := "raft.go:57", after := #[{ on := 9, ground := Ground.data }, { on := 3, ground := Ground.chain }, { on := 0, ground := Ground.phase }, { on := 1, ground := Ground.phase }, { on := 2, ground := Ground.phase }, { on := 3, ground := Ground.phase }, { on := 4, ground := Ground.phase }, { on := 5, ground := Ground.phase }, { on := 6, ground := Ground.phase }, { on := 7, ground := Ground.phase }, { on := 8, ground := Ground.phase }, { on := 9, ground := Ground.phase }], guard := Option.none }) (v := .pointer (some ⟨p, 0, none⟩)) rfl (by kernel_rfl) (by kernel_rfl) (by kernel_rfl) (fun _ _ _ h => h) (Or.inl ⟨by rfl, ?_⟩) hHeld ?_
   · intro W hSw
     go_simp
   simp only [Act.put, qA, qB, qC]
   clear hHeld
   refine wpAnyH_done (by kernel_rfl) ?_ _
   go_wp2_with (go_at_call 104; go_must (refine (rrest_any _ _ p (born id span s) _ draw W4 H4.out.1 HWf.out.spr).mono ?_; rintro y w5 ⟨rfl, hc5, ho5⟩; have H5 := jI (jA hc5 ho5); clear hc5 ho5))
   go_ret2
   refine ⟨⟨H5.out.2.os.trans H4.out.2.1.os, H5.out.2.tape.trans H4.out.2.1.tape, H5.out.2.output.trans H4.out.2.1.output, by rw [H5.out.2.size]; exact H4.out.2.1.size, fun k hk => (H5.out.2.block k (by have := H4.out.2.2; omega)).trans (H4.out.2.1.block k hk)⟩, Or.inr ⟨hx.out, p, _, rfl, H4.out.2.2, H5.out.1⟩⟩
end
section
theorem okN_12 (s : St) : okN 1 2 s = mayS s := by
 unfold okN
 rw [decide_eq_true (show (1 : Int) ≤ 1 ∧ (1 : Int) ≤ 64 ∧ (2 : Int) ≤ 2 ∧ (2 : Int) ≤ 1000 from by omega), Bool.true_and]
set_option maxHeartbeats 4000000 in
theorem smay_any (s : St) (q : Pl) (w : World) (hs : StdP w) (hL : Inp s.log q.AL q.nL q.cL w) (hC : Ints w (.slice q.AC q.nC q.cC) s.conf) (hS : Bys w (.slice q.AS q.nS q.cS) s.snap) (hsm : SmallE 1000000 25663 s.log.l) (hsn : s.snap.length ≤ 2000000) :
   Calls Tryz.prog 28 #[stV s q] w fun e w' => e = .returned (.bool (mayS s)) ∧ Below w.heap.size w w' := by
 obtain ⟨W1, g, hW1, hg, hb1, hq1, hsz1⟩ := one_box w (.cells #[.int .i64 s.term, .int .i64 s.vote, .int .i64 s.log.base, .int .i64 s.log.term, .slice q.AL q.nL q.cL, .slice q.AC q.nC q.cC, .slice q.AS q.nS q.cS] 35)
 have CN := New13_any (fun _ => False) 1 2 s q 0 W1 (fun _ h => h.elim) (hs.more hb1) (hL.below hb1) (hC.below hb1) (hS.below hb1) hsm hsn
 unfold stV at CN
 have CN := jI CN
 obtain ⟨z0, z1, z2, z3, z4, z5, z6⟩ := cells7 hq1
 have HW := jI (jA hW1 hg)
 have HE := jI hb1
 clear hs hL hC hS hsm hsn hW1 hg hb1 hq1 hsz1
 unfold stV
 go_enter Tryz.func28, Tryz.ntmps28
 go_upto_region 1 with fail
 rw [← HW.out.1, ← HW.out.2]
 go_upto_region 2 with (go_at_call 69; go_must (refine CN.out.mono ?_; clear CN; rintro y w2 ⟨hb2, h2⟩; rcases h2 with ⟨ho, rfl⟩ | ⟨ho, p, q', rfl, hp, -⟩))
 · have H2 := jI (jA (HE.out.trans (hb2.mono HE.out.size)) ho)
   clear hb2 ho z0 z1 z2 z3 z4 z5 z6
   rw [er_ne (show (1 : Nat) ≠ 0 by decide)]
   go_wp2_with fail
   go_ret
   exact ⟨by rw [← okN_12, H2.out.2]; rfl, H2.out.1⟩
 · have H2 := jI (jA (HE.out.trans (hb2.mono HE.out.size)) ho)
   clear hb2 ho hp z0 z1 z2 z3 z4 z5 z6
   go_wp2_with fail
   go_ret
   exact ⟨by rw [← okN_12, H2.out.2]; rfl, H2.out.1⟩
end
section
set_option maxHeartbeats 8000000 in
theorem readable_any (A : Option Addr) (n c : Nat) (l : List En) (w : World) (h : Ents w (.slice A n c) l) (r : Bool) (hr : r = !l.any misE) :
   Calls Tryz.prog 87 #[.slice A n c] w fun y w' => y = .returned (.bool r) ∧ Below w.heap.size w w' := by
 obtain ⟨hn, hnc, hcm⟩ := h.len_
 have in1 : (n : Int) ≤ 9223372036854775807 := by omega
 have HH := jI (jA h (jA hn hr))
 clear h hn hnc hcm hr
 go_enter Tryz.func87, Tryz.ntmps87
 go_wp2_with fail
 go_loopw [3] (fun ii wr => ∃ (j : Nat), j ≤ n ∧ ii = .int .i64 (j : Int) ∧ Hid ((∀ e ∈ l.take j, misE e = false) ∧ Below w.heap.size w wr)) (fun ii _ => n - (intOf ii).toNat)
 case atStart => exact ⟨0, Nat.zero_le _, rfl, jI ⟨by simp, Below.refl _ _⟩⟩
 case round =>
   obtain ⟨j, hj, rfl, HT⟩ := hrel
   by_cases hlt : j < n
   · have ii : (j : Int) < (n : Int) := by omega
     have hjl : j < l.length := by have := HH.out.2.1; omega
     obtain ⟨bk, off, Ad, cd, rfl, hbb, hok, q0, q1, q2, q3, hdat⟩ := (HH.out.1.below HT.out.2).at_ j hjl
     have htk : ∀ e ∈ l.take (j + 1), e ∈ l.take j ∨ e = l[j] := fun e he => by rw [List.take_succ_eq_append_getElem hjl] at he; rcases List.mem_append.mp he with h1 | h1; exact Or.inl h1; exact Or.inr (List.mem_singleton.mp h1)
     have hmem := List.getElem_mem hjl
     obtain ⟨e, he⟩ : ∃ e, e = l[j] := ⟨_, rfl⟩
     rw [← he] at hok q0 q1 q2 q3 hdat htk hmem
     obtain ⟨m, hm⟩ : ∃ m, m = e.data.length := ⟨_, rfl⟩
     rw [← hm] at q3 hdat
     obtain ⟨f, hf⟩ : ∃ f, f = if okD e.data = true then 0 else 3 := ⟨_, rfl⟩
     have CD := jI (RCDec_any Ad m cd e.data wr hdat _ rfl _ rfl f hf)
     have HQ2 := jI fun W (hW : Below wr.heap.size wr W) => (hW.cell (p := ⟨bk, off + j * 4 + 2, none⟩) hbb).trans q2
     have hmis : misE e = (decide (e.kind = 2) && !okD e.data) := rfl
     obtain ⟨kd, hkd⟩ : ∃ kd, kd = e.kind := ⟨_, rfl⟩
     rw [← hkd] at q2 hmis
     have HQ2 := jI fun W (hW : Below wr.heap.size wr W) => (hW.cell (p := ⟨bk, off + j * 4 + 2, none⟩) hbb).trans q2
     have ij0 : (0 : Int) ≤ (j : Int) := by omega
     cases hme : misE e with
     | true =>
       have hk2 : kd = 2 := by rw [hme] at hmis; by_cases h2 : kd = 2; exact h2; rw [decide_eq_false h2] at hmis; cases hmis
       have hf3 : f = 3 := by rw [hf]; rw [hme] at hmis; cases ho : okD e.data with | false => rfl | true => rw [ho] at hmis; simp at hmis
       have hrf : r = false := by rw [HH.out.2.2, show l.any misE = true from List.any_eq_true.2 ⟨e, hmem, hme⟩]; rfl
       subst hk2; subst hf3; subst hrf
       clear hbb hok q2 hdat htk hmem he hm hf hmis hkd hme
       go_wp2_with (go_at_call 56; go_must (refine CD.out.mono ?_; rintro y w2 ⟨A2, c2, rfl, -, hb⟩; have q2 := HQ2.out w2 hb; have H2 := jI (HT.out.2.trans (hb.mono HT.out.2.size)); clear hb))
       go_ret
       exact ⟨rfl, H2.out⟩
     | false =>
       have hnx : Hid (∀ x ∈ l.take (j + 1), misE x = false) := jI fun x hx => by
         rcases htk x hx with h1 | h1
         · exact HT.out.1 x h1
         · rw [h1]; exact hme
       by_cases hk2 : kd = 2
       · have hf0 : f = 0 := by rw [hf]; rw [hme, hk2] at hmis; cases ho : okD e.data with | true => rfl | false => rw [ho] at hmis; simp at hmis
         subst hk2; subst hf0
         clear hbb hok q2 hdat htk hmem he hm hf hmis hkd hme
         go_wp2_with (go_at_call 56; go_must (refine CD.out.mono ?_; rintro y w2 ⟨A2, c2, rfl, -, hb⟩; have q2 := HQ2.out w2 hb; have H2 := jI (HT.out.2.trans (hb.mono HT.out.2.size)); clear hb))
         go_roundw
         case rel => exact ⟨j + 1, by omega, by go_num, jI ⟨hnx.out, H2.out⟩⟩
         case measure => simp [intOf]; omega
       · have ik : ¬ kd = 2 := hk2
         have ik1 : (kd == 2) = false := by simpa using hk2
         clear hbb hok q2 hdat htk hmem he hm hf hmis hkd hme hk2
         go_wp2_with (go_at_call 56; go_must (refine CD.out.mono ?_; rintro y w2 ⟨A2, c2, rfl, -, hb⟩; have q2 := HQ2.out w2 hb; have H2 := jI (HT.out.2.trans (hb.mono HT.out.2.size)); clear hb))
         go_roundw
         case rel => exact ⟨j + 1, by omega, by go_num, jI ⟨hnx.out, H2.out⟩⟩
         case measure => simp [intOf]; omega
   · obtain rfl : j = n := by omega
     have ii : ¬ (j : Int) < (j : Int) := by omega
     have hrt : r = true := by
       rw [HH.out.2.2]
       have h1 := HT.out.1
       rw [List.take_of_length_le (by have := HH.out.2.1; omega)] at h1
       rw [show l.any misE = false from by rw [List.any_eq_false]; intro x hx; rw [h1 x hx]; decide]
       rfl
     subst hrt
     go_wp2_with fail
     go_ret
     exact ⟨rfl, HT.out.2⟩
end
section
def corC (s : St) (q : Pl) (wt : Int) : Array Value := #[.int .i64 s.term, .int .i64 s.vote, .int .i64 s.log.base, .int .i64 s.log.term, .slice q.AL q.nL q.cL, .slice q.AC q.nC q.cC, .slice q.AS q.nS q.cS, .int .i64 1, .int .i64 2, .int .i64 0, .int .i64 0, .int .i64 s.log.base, .int .i64 0, .int .i64 0, .int .i64 wt, .slice none 0 0, .slice none 0 0, .int .i64 0, .slice none 0 0]
theorem corC_one {s : St} {q : Pl} {wt : Int} : (corC s q wt).all (·.oneCell') = true := by
 simp [corC, Value.oneCell']
theorem below_sr {B g : Nat} {w0 w : World} (hb : Below B w0 w) (hBg : B ≤ g) (cs : Array Value) : Below B w0 (w.setRow g cs) :=
 hb.trans ⟨rfl, rfl, rfl, by simp [World.setRow], fun k hk => setRow_other w g k cs (by omega)⟩
set_option maxHeartbeats 16000000 in
theorem draws_any (s : St) (q : Pl) (w : World) : Calls Tryz.prog 88 #[.agg (corC s q 0), .int .i64 0] w fun y w' => y = .returned (.agg (corC s q 2)) ∧ Below w.heap.size w w' := by
 obtain ⟨W1, g0, g1, hW1, hg0, hg1, hb1, hq0, hq1, hsz⟩ := two_box w (.cells (corC s q 0) 101) (.cells #[.int .i64 0, .int .i64 0, .int .i64 0, .int .i64 0, .slice none 0 0, .slice none 0 0, .slice none 0 0, .int .i64 0, .int .i64 0, .int .i64 0, .int .i64 0, .int .i64 0, .int .i64 0, .int .i64 0, .int .i64 0, .slice none 0 0, .slice none 0 0, .int .i64 0, .slice none 0 0] 101)
 have HE := jI (jA hb1 (jA hq0 (jA hq1 (jA (show w.heap.size ≤ g0 by omega) hg1))))
 have HW := jI (jA hW1 (jA hg0 (show g1 = w.heap.size + 1 by omega)))
 have z13 : W1.cell? ⟨g0, 13, none⟩ = some (.int .i64 0) := by rw [cell_of_row W1 g0 13 _ _ (0, 0) hq0]; rfl
 have f13 := frozen_of_row W1 g0 13 _ _ hq0
 unfold corC at HW ⊢
 clear hW1 hg0 hg1 hb1 hq0 hq1 hsz
 go_enter Tryz.func88, Tryz.ntmps88
 go_upto_region 1 with fail
 rw [← HW.out.1, ← HW.out.2.2, ← HW.out.2.1]
 go_upto_region 2 with fail
 obtain ⟨V1, hV1⟩ : ∃ V, V = (W1.setCell ⟨g0, 13, none⟩ (.int .i64 0)).drew := ⟨_, rfl⟩
 have HV := jI (show V1.heap[g0]? = some (.cells (corC s q 0) 101 (0, 0)) ∧ V1.heap[g1]? = W1.heap[g1]? ∧ Below w.heap.size w V1 from by
   rw [hV1]
   exact ⟨setc HE.out.2.1 _, setc_oth _ (by have := HE.out.2.2.2.2; omega), (HE.out.1.setCell (show w.heap.size ≤ g0 from HE.out.2.2.2.1) _).drew⟩)
 refine wp_region_held_drew (S := fun W => W.cell? ⟨g0, 8, none⟩ = some (.int .i64 2)) (by kernel_rfl) (by rw [← hV1, cell_of_row V1 g0 8 _ _ (0, 0) HV.out.1]; rfl) (fun hHeld => ?_)
 rw [← hV1]
 rw [← hV1] at hHeld
 clear hV1 z13 f13
 have kw1 : IntKind.u64.wrap 0 = 0 := by rfl
 have kw2 : IntKind.i64.wrap 3 = 3 := by rfl
 have kw3 : IntKind.u64.wrap 3 = 3 := by rfl
 have kw4 : IntKind.i64.wrap 0 = 0 := by rfl
 have kw5 : IntKind.i64.wrap 2 = 2 := by rfl
 refine wpAnyH_take (i := 0) (oi := { dst := Option.some 6, op := Op.fieldAddr 101 (Operand.tmp 2) 2, type := 0, pos := "ref.go:65", after := #[], guard := Option.none }) (v := .pointer (some ⟨g0, 8, none⟩)) rfl (by kernel_rfl) (by kernel_rfl) (by kernel_rfl) (fun _ _ _ h => h) (Or.inl ⟨by rfl, ?_⟩) hHeld ?_
 · intro W hSw
   go_simp
 simp only [Act.put, qA, qB, qC]
 refine wpAnyH_take (i := 1) (oi := { dst := Option.some 7, op := Op.load 3 (Operand.tmp 6), type := 3, pos := "ref.go:65", after := #[{ on := 0, ground := Ground.data }], guard := Option.none }) (v := .int .i64 2) rfl (by kernel_rfl) (by kernel_rfl) (by kernel_rfl) (fun _ _ _ h => h) (Or.inl ⟨by rfl, ?_⟩) hHeld ?_
 · intro W hSw
   have y8 := hSw
   go_simp
 simp only [Act.put, qA, qB, qC]
 refine wpAnyH_take (i := 2) (oi := { dst := Option.some 8, op := Op.move (Operand.tmp 1), type := 3, pos := "ref.go:65", after := #[], guard := Option.none }) (v := .int .i64 0) rfl (by kernel_rfl) (by kernel_rfl) (by kernel_rfl) (fun _ _ _ h => h) (Or.inl ⟨by rfl, ?_⟩) hHeld ?_
 · intro W hSw
   go_simp
 simp only [Act.put, qA, qB, qC]
 refine wpAnyH_take (i := 3) (oi := { dst := Option.some 9, op := Op.convert 3 39 (Operand.tmp 8), type := 39, pos := "ref.go:65", after := #[{ on := 2, ground := Ground.data }], guard := Option.none }) (v := .int .u64 0) rfl (by kernel_rfl) (by kernel_rfl) (by kernel_rfl) (fun _ _ _ h => h) (Or.inl ⟨by rfl, ?_⟩) hHeld ?_
 · intro W hSw
   go_simp
 simp only [Act.put, qA, qB, qC]
 refine wpAnyH_take (i := 4) (oi := { dst := Option.some 10, op := Op.fieldAddr 101 (Operand.tmp 2) 2, type := 0, pos := "ref.go:65", after := #[], guard := Option.none }) (v := .pointer (some ⟨g0, 8, none⟩)) rfl (by kernel_rfl) (by kernel_rfl) (by kernel_rfl) (fun _ _ _ h => h) (Or.inl ⟨by rfl, ?_⟩) hHeld ?_
 · intro W hSw
   go_simp
 simp only [Act.put, qA, qB, qC]
 refine wpAnyH_take (i := 5) (oi := { dst := Option.some 11, op := Op.load 3 (Operand.tmp 10), type := 3, pos := "ref.go:65", after := #[{ on := 4, ground := Ground.data }], guard := Option.none }) (v := .int .i64 2) rfl (by kernel_rfl) (by kernel_rfl) (by kernel_rfl) (fun _ _ _ h => h) (Or.inl ⟨by rfl, ?_⟩) hHeld ?_
 · intro W hSw
   have y8 := hSw
   go_simp
 simp only [Act.put, qA, qB, qC]
 refine wpAnyH_take (i := 6) (oi := { dst := Option.some 12, op := Op.binOp BinOp.add 3 (Operand.tmp 11) (Operand.const (Value.int IntKind.i64 1)) 3, type := 3, pos := "ref.go:65", after := #[{ on := 5, ground := Ground.data }], guard := Option.none }) (v := .int .i64 3) rfl (by kernel_rfl) (by kernel_rfl) (by kernel_rfl) (fun _ _ _ h => h) (Or.inl ⟨by rfl, ?_⟩) hHeld ?_
 · intro W hSw
   go_simp
 simp only [Act.put, qA, qB, qC]
 refine wpAnyH_take (i := 7) (oi := { dst := Option.some 13, op := Op.convert 3 39 (Operand.tmp 12), type := 39, pos := "ref.go:65", after := #[{ on := 6, ground := Ground.data }], guard := Option.none }) (v := .int .u64 3) rfl (by kernel_rfl) (by kernel_rfl) (by kernel_rfl) (fun _ _ _ h => h) (Or.inl ⟨by rfl, ?_⟩) hHeld ?_
 · intro W hSw
   go_simp
 simp only [Act.put, qA, qB, qC]
 refine wpAnyH_take (i := 8) (oi := { dst := Option.some 14, op := Op.binOp BinOp.rem 39 (Operand.tmp 9) (Operand.tmp 13) 39, type := 39, pos := "ref.go:65", after := #[{ on := 3, ground := Ground.data }, { on := 7, ground := Ground.data }], guard := Option.none }) (v := .int .u64 0) rfl (by kernel_rfl) (by kernel_rfl) (by kernel_rfl) (fun _ _ _ h => h) (Or.inl ⟨by rfl, ?_⟩) hHeld ?_
 · intro W hSw
   go_simp
 simp only [Act.put, qA, qB, qC]
 refine wpAnyH_take (i := 9) (oi := { dst := Option.some 15, op := Op.convert 39 3 (Operand.tmp 14), type := 3, pos := "ref.go:65", after := #[{ on := 8, ground := Ground.data }], guard := Option.none }) (v := .int .i64 0) rfl (by kernel_rfl) (by kernel_rfl) (by kernel_rfl) (fun _ _ _ h => h) (Or.inl ⟨by rfl, ?_⟩) hHeld ?_
 · intro W hSw
   go_simp
 simp only [Act.put, qA, qB, qC]
 refine wpAnyH_take (i := 10) (oi := { dst := Option.some 16, op := Op.binOp BinOp.add 3 (Operand.tmp 7) (Operand.tmp 15) 3, type := 3, pos := "ref.go:65", after := #[{ on := 1, ground := Ground.data }, { on := 9, ground := Ground.data }], guard := Option.none }) (v := .int .i64 2) rfl (by kernel_rfl) (by kernel_rfl) (by kernel_rfl) (fun _ _ _ h => h) (Or.inl ⟨by rfl, ?_⟩) hHeld ?_
 · intro W hSw
   go_simp
 simp only [Act.put, qA, qB, qC]
 refine wpAnyH_take (i := 11) (oi := { dst := Option.some 17, op := Op.fieldAddr 101 (Operand.tmp 2) 8, type := 0, pos := "ref.go:65", after := #[{ on := 0, ground := Ground.phase }, { on := 1, ground := Ground.phase }, { on := 2, ground := Ground.phase }, { on := 3, ground := Ground.phase }, { on := 4, ground := Ground.phase }, { on := 5, ground := Ground.phase }, { on := 6, ground := Ground.phase }, { on := 7, ground := Ground.phase }, { on := 8, ground := Ground.phase }, { on := 9, ground := Ground.phase }, { on := 10, ground := Ground.phase }], guard := Option.none }) (v := .pointer (some ⟨g0, 14, none⟩)) rfl (by kernel_rfl) (by kernel_rfl) (by kernel_rfl) (fun _ _ _ h => h) (Or.inl ⟨by rfl, ?_⟩) hHeld ?_
 · intro W hSw
   go_simp
 simp only [Act.put, qA, qB, qC]
 have z14 : V1.cell? ⟨g0, 14, none⟩ = some (.int .i64 0) := by rw [cell_of_row V1 g0 14 _ _ (0, 0) HV.out.1]; rfl
 have f14 := frozen_of_row V1 g0 14 _ _ HV.out.1
 refine wpAnyH_ready (rs := [12]) (by kernel_rfl) (by simp) ?_
 refine AllReadyH.cons (o := { dst := Option.none, op := Op.store 3 (Operand.tmp 17) (Operand.tmp 16), type := 0, pos := "ref.go:65", after := #[{ on := 11, ground := Ground.data }, { on := 10, ground := Ground.data }, { on := 0, ground := Ground.phase }, { on := 1, ground := Ground.phase }, { on := 2, ground := Ground.phase }, { on := 3, ground := Ground.phase }, { on := 4, ground := Ground.phase }, { on := 5, ground := Ground.phase }, { on := 6, ground := Ground.phase }, { on := 7, ground := Ground.phase }, { on := 8, ground := Ground.phase }, { on := 9, ground := Ground.phase }, { on := 10, ground := Ground.phase }], guard := Option.none }) rfl (fun K hK => ?_) AllReadyH.nil
 go_simp
 obtain ⟨V2, hV2⟩ : ∃ V, V = V1.setCell ⟨g0, 14, none⟩ (.int .i64 2) := ⟨_, rfl⟩
 have HX := jI (show V2.heap[g0]? = some (.cells (corC s q 2) 101 (0, 0)) ∧ V2.heap[g1]? = W1.heap[g1]? ∧ Below w.heap.size w V2 from by
   rw [hV2]
   exact ⟨(setc HV.out.1 _).trans rfl, (setc_oth _ (by have := HE.out.2.2.2.2; omega)).trans HV.out.2.1, HV.out.2.2.setCell (show w.heap.size ≤ g0 from HE.out.2.2.2.1) _⟩)
 rw [← hV2]
 clear hV2 z14 f14 hHeld
 refine hK.out _ _ (show V2.cell? ⟨g0, 8, none⟩ = some (.int .i64 2) by rw [cell_of_row V2 g0 8 _ _ (0, 0) HX.out.1]; rfl) (fun hHeld => ?_)
 clear hK K hHeld
 refine wpAnyH_done (by kernel_rfl) ?_ _
 skip
 have hz := HX.out.2.1.trans HE.out.2.2.1
 have hx := HX.out.1
 have hbx := HX.out.2.2
 go_wp2_with (first | (refine wpList_load_row rfl 101 _ rfl g0 rfl 101 (corC s q 2) (0, 0) _ hx rfl rfl rfl ?_) | (refine wpList_store_row rfl 101 _ _ rfl g1 (corC s q 2) rfl rfl 101 _ hz rfl rfl corC_one ?_))
 have hr := results_cell_row (P := Tryz.prog) (fn := Tryz.f88) (p := 4) (ty := 101) rfl (g := g1) (t := 101) (cs := corC s q 2) (fr := (0, 0)) (w := V2.setRow g1 (corC s q 2)) (d := _) (hg := setRow_heap V2 g1 _ _ _ _ hz) (hu := rfl) (hd := rfl) (hi := rfl)
 refine bodyPost_ret_by (hr _ ?_) rfl ⟨rfl, below_sr hbx (by have := HE.out.2.2.2; omega) _⟩
 rfl
end
section
def SDecP (w : World) (b : List UInt8) (e : Ending) (w' : World) : Prop := ∃ (nn : Int) (s' : St) (q : Pl) (ve : Value), e = .returned (.tuple #[.int .i64 nn, stV s' q, ve]) ∧ Below w.heap.size w w' ∧
 ((decS b = none ∧ nn = 0 ∧ s' = stz ∧ q = plz ∧ ve = .iface 69 (.int .i64 3)) ∨
  (∃ n, decS b = some (n, s') ∧ nn = (n : Int) ∧ ve = .nilIface ∧ Rws w' (fun k => w.heap.size ≤ k ∧ k < w'.heap.size) s' q ∧ ∀ e ∈ s'.log.l, e.ok ∧ e.data.length ≤ 4096))
theorem rawS_in (b : List UInt8) : inI ((rawS b).n : Int) ∧ inI (rawS b).s.term ∧ inI (rawS b).s.vote ∧ inI (rawS b).s.log.base ∧ inI (rawS b).s.log.term ∧ (rawS b).s.snap.length ≤ 1048576 ∧ (rawS b).n ≤ 1099511627776 := by
 have h5 := numsR_len (b, 0) 5
 have hle : ∀ j, j < 5 → (numsR (b, 0) 5).2.getD j 0 ≤ 1099511627776 := fun j hj => numsR_le (b, 0) 5 _ (by simp [List.getD, List.getElem?_eq_getElem (show j < (numsR (b, 0) 5).2.length by omega)])
 have h0 := hle 0 (by omega)
 have h1 := hle 1 (by omega)
 have h2 := hle 2 (by omega)
 have h3 := hle 3 (by omega)
 have h4 := hle 4 (by omega)
 refine ⟨?_, ?_, ?_, ?_, ?_, rBytes_leS 1048576 _, h0⟩ <;> unfold inI rawS <;> simp only <;> omega
theorem decC_inI (d : List UInt8) : ∀ z ∈ decC d, inI z := by
 intro z hz
 unfold decC at hz
 by_cases h : okD d = true
 · rw [if_pos h] at hz
   unfold rawC at hz
   have := takeC_le _ _ z hz
   unfold inI; omega
 · rw [if_neg h] at hz; cases hz
theorem takeEs_len : ∀ (k : Nat) (s : List UInt8 × Nat), (takeEs k s).2.length ≤ k
 | 0, s => Nat.le_refl _
 | k + 1, s => by
   unfold takeEs
   by_cases h : s.2 ≠ 0
   · rw [if_pos h]; exact Nat.zero_le _
   · rw [if_neg h]
     simp only [List.length_cons]
     have := takeEs_len k (rBytes 98 4200 s).1
     omega
theorem rawS_many (b : List UInt8) : (rawS b).s.log.l.length ≤ 4096 := by
 unfold rawS
 simp only
 refine Nat.le_trans (takeEs_len _ _) ?_
 generalize (rBytes 98 1048576 (rBytes 98 512 (numsR (b, 0) 5).1).1).1 = y
 rcases y with ⟨s, k⟩
 rcases h : rCount 4096 (s, k) with ⟨⟨s', k'⟩, n⟩
 exact (rCount_ofS h).1
theorem rawS_conf (b : List UInt8) : ∀ z ∈ (rawS b).s.conf, inI z := by
 unfold rawS
 simp only
 exact decC_inI _
theorem decS_no {b : List UInt8} (h : okS b = false) : decS b = none := by unfold decS; rw [if_neg (by rw [h]; decide)]
theorem decS_yes {b : List UInt8} (h : okS b = true) : decS b = some ((rawS b).n, (rawS b).s) := by unfold decS; rw [if_pos h]
set_option maxHeartbeats 16000000 in
theorem SDec_any (A : Option Addr) (n c : Nat) (b : List UInt8) (w : World) (hs : StdP w) (h : Bys w (.slice A n c) b) (hn : n ≤ 140737488355328) :
   Calls Tryz.prog 80 #[.slice A n c] w (SDecP w b) := by
 obtain ⟨W1, g, hW1, hg, hb1, hq0, hsz⟩ := one_box w (.cells #[.int .i64 0, .int .i64 0, .int .i64 0, .int .i64 0, .slice none 0 0, .slice none 0 0, .slice none 0 0] 35)
 have hln := h.len_
 have C0 := jI (Read_any A n c b W1 W1.heap.size ((h.below hb1).sl_) (by omega))
 have hs1 := hs.more hb1
 have CT := fun w1 p v h0 hr hp => take_any W1 w1 p v b h0 hs1 hr hp (by omega)
 unfold TakeP stV at CT
 have CT := jI CT
 have HS := jI fun W (hW : Below W1.heap.size W1 W) => hs1.more hW
 have HW := jI (jA hW1 hg)
 have HE := jI (jA hb1 (jA hq0 (show w.heap.size ≤ g ∧ g < W1.heap.size by omega)))
 obtain ⟨r, hr⟩ : ∃ r, r = rawS b := ⟨_, rfl⟩
 have HR := jI hr
 rw [← hr] at CT
 have hin := rawS_in b
 have hmany := rawS_many b
 have hconf := rawS_conf b
 rw [← hr] at hin hmany hconf
 have HI := jI (jA hin (jA hmany hconf))
 have hok : okS b = (decide (doneR r.st = 0) && r.ok && decide (1 ≤ r.n) && mayS r.s) := by rw [hr]; rfl
 have HOK := jI hok
 clear hs h hn hln hW1 hg hb1 hq0 hsz hs1 hr hin hmany hconf hok
 go_enter Tryz.func80, Tryz.ntmps80
 go_upto_region 1 with fail
 rw [← HW.out.1]
 try rw [← HW.out.2]
 go_upto_region 2 with (first
   | (go_at_call 113; go_must (refine C0.out.mono ?_; rintro y w1 ⟨p, v, rfl, hp, hr, hb⟩; have H1 := jI (jA hr (jA hb hp)); clear hr hb hp))
   | (go_at_call 112; go_must (refine (CT.out w1 p v H1.out.2.1 H1.out.1 H1.out.2.2).mono ?_; rintro y w2 ⟨nn, s', q, ve, rfl, hb2, h2⟩; have H2 := jI (jA hb2 h2); clear hb2 h2)))
 obtain ⟨V2, g2, hV2, hg2, hb3, hq3, hsz3⟩ := one_box w2 (.cells #[.int .i64 s'.term, .int .i64 s'.vote, .int .i64 s'.log.base, .int .i64 s'.log.term, .slice q.AL q.nL q.cL, .slice q.AC q.nC q.cC, .slice q.AS q.nS q.cS] 35)
 rw [← hV2, ← hg2]
 have HB := jI (H2.out.1.trans (hb3.mono H2.out.1.size))
 have TZ : V2.heap[g]? = some (.cells #[.int .i64 0, .int .i64 0, .int .i64 0, .int .i64 0, .slice none 0 0, .slice none 0 0, .slice none 0 0] 35 (0, 0)) := (HB.out.block g HE.out.2.2.2).trans HE.out.2.1
 have H3 := jI (jA hq3 (jA hb3 (jA TZ hg2)))
 clear hV2 hg2 hb3 hq3 hsz3 C0 CT
 have bad : ∀ V : World, Below V2.heap.size V2 V → okS b = false → bodyPost Tryz.prog Tryz.f80 (SDecP w b) = bodyPost Tryz.prog Tryz.f80 (SDecP w b) := fun _ _ _ => rfl
 clear bad
 rcases H2.out.2 with ⟨⟨kE, rfl⟩, hno⟩ | ⟨rfl, hyes, rfl, rfl, hrw, hen⟩
 · have HN := jI (decS_no (show okS b = false by rw [HOK.out, hno]; rfl))
   obtain ⟨z0, z1, z2, z3, z4, z5, z6⟩ := cells7 H3.out.2.2.1
   have TZ := H3.out.2.2.1
   have f0 := frozen_own TZ 0; have f1 := frozen_own TZ 1; have f2 := frozen_own TZ 2; have f3 := frozen_own TZ 3; have f4 := frozen_own TZ 4; have f5 := frozen_own TZ 5; have f6 := frozen_own TZ 6
   clear hno
   go_wp2_with fail
   obtain ⟨F, hF, hE, hbQ, hoth, hsF⟩ := put7 TZ (.int .i64 0) (.int .i64 0) (.int .i64 0) (.int .i64 0) (.slice none 0 0) (.slice none 0 0) (.slice none 0 0)
   rw [← hF]
   clear hF z0 z1 z2 z3 z4 z5 z6
   obtain ⟨z0, z1, z2, z3, z4, z5, z6⟩ := cells7 hE
   exact bodyPost_ret (v := .tuple #[.int .i64 0, .agg #[.int .i64 0, .int .i64 0, .int .i64 0, .int .i64 0, .slice none 0 0, .slice none 0 0, .slice none 0 0], .iface 69 (.int .i64 3)]) (by simp [results, Tryz.results80, go_sem, z0, z1, z2, z3, z4, z5, z6]) rfl ⟨0, stz, plz, _, rfl, (HE.out.1.trans (HB.out.mono HE.out.1.size)).trans (hbQ _ HE.out.2.2.1), Or.inl ⟨HN.out, rfl, rfl, rfl, rfl⟩⟩
 · have hinp : Inp r.s.log q.AL q.nL q.cL V2 := ⟨⟨hrw.ents.move (fun k hk hk2 => H3.out.2.1.block k hk2) fun k hk => Nat.lt_of_lt_of_le hk.2 H3.out.2.1.size, fun e he => (hen e he).1⟩, HI.out.1.2.2.2.1, HI.out.1.2.2.2.2.1, by have := HI.out.2.1; omega, fun e he => by have := (hen e he).2; omega⟩
   have hci : Ints V2 (.slice q.AC q.nC q.cC) r.s.conf := ⟨(RowT.kept hrw.conf fun k hk hk2 => H3.out.2.1.block k hk2).mono fun k hk => Nat.lt_of_lt_of_le hk.2 H3.out.2.1.size, HI.out.2.2⟩
   have hsb : Bys V2 (.slice q.AS q.nS q.cS) r.s.snap := (SlT.kept hrw.snap fun k hk hk2 => H3.out.2.1.block k hk2).mono fun k hk => Nat.lt_of_lt_of_le hk.2 H3.out.2.1.size
   have CM := smay_any r.s q V2 (HS.out _ HB.out) hinp hci hsb ⟨by have := HI.out.2.1; omega, fun e he => by have := (hen e he).2; omega⟩ (by have := HI.out.1.2.2.2.2.2.1; omega)
   unfold stV at CM
   have CM := jI CM
   have HRW := jI (jA hrw hen)
   have HY := jI hyes
   clear hinp hci hsb hrw hen hyes
   obtain ⟨z0, z1, z2, z3, z4, z5, z6⟩ := cells7 H3.out.2.2.1
   obtain ⟨y0, y1, y2, y3, y4, y5, y6⟩ := cells7 H3.out.1
   have TZ := H3.out.2.2.1
   have f0 := frozen_own TZ 0; have f1 := frozen_own TZ 1; have f2 := frozen_own TZ 2; have f3 := frozen_own TZ 3; have f4 := frozen_own TZ 4; have f5 := frozen_own TZ 5; have f6 := frozen_own TZ 6
   by_cases hn1 : r.n < 1
   · have HN := jI (decS_no (show okS b = false by rw [HOK.out, decide_eq_false (show ¬ 1 ≤ r.n by omega)]; simp))
     have i1 : (r.n : Int) < 1 := by omega
     clear hn1
     go_wp2_with fail
     obtain ⟨F, hF, hE, hbQ, hoth, hsF⟩ := put7 TZ (.int .i64 0) (.int .i64 0) (.int .i64 0) (.int .i64 0) (.slice none 0 0) (.slice none 0 0) (.slice none 0 0)
     rw [← hF]
     clear hF z0 z1 z2 z3 z4 z5 z6
     obtain ⟨z0, z1, z2, z3, z4, z5, z6⟩ := cells7 hE
     exact bodyPost_ret (v := .tuple #[.int .i64 0, .agg #[.int .i64 0, .int .i64 0, .int .i64 0, .int .i64 0, .slice none 0 0, .slice none 0 0, .slice none 0 0], .iface 69 (.int .i64 3)]) (by simp [results, Tryz.results80, go_sem, z0, z1, z2, z3, z4, z5, z6]) rfl ⟨0, stz, plz, _, rfl, (HE.out.1.trans (HB.out.mono HE.out.1.size)).trans (hbQ _ HE.out.2.2.1), Or.inl ⟨HN.out, rfl, rfl, rfl, rfl⟩⟩
   · have i1 : ¬ (r.n : Int) < 1 := by omega
     have HN1 := jI hn1
     clear hn1
     obtain ⟨mb, hmb⟩ : ∃ mb, mb = mayS r.s := ⟨_, rfl⟩
     rw [← hmb] at CM
     cases hmv : mb with
     | false =>
       subst hmv
       have HN := jI (decS_no (show okS b = false by rw [HOK.out, ← hmb]; simp))
       clear hmb
       go_wp2_with (go_at_call 28; go_must (refine CM.out.mono ?_; rintro y w4 ⟨rfl, hb4⟩; have TZ4 := (hb4.block g (by have := HE.out.2.2.2; have := HB.out.size; omega)).trans TZ; have H4 := jI (jA hb4 TZ4); clear hb4 TZ4 z0 z1 z2 z3 z4 z5 z6 f0 f1 f2 f3 f4 f5 f6 y0 y1 y2 y3 y4 y5 y6; obtain ⟨z0, z1, z2, z3, z4, z5, z6⟩ := cells7 H4.out.2; have f0 := frozen_own H4.out.2 0; have f1 := frozen_own H4.out.2 1; have f2 := frozen_own H4.out.2 2; have f3 := frozen_own H4.out.2 3; have f4 := frozen_own H4.out.2 4; have f5 := frozen_own H4.out.2 5; have f6 := frozen_own H4.out.2 6))
       obtain ⟨F, hF, hE, hbQ, hoth, hsF⟩ := put7 H4.out.2 (.int .i64 0) (.int .i64 0) (.int .i64 0) (.int .i64 0) (.slice none 0 0) (.slice none 0 0) (.slice none 0 0)
       rw [← hF]
       clear hF z0 z1 z2 z3 z4 z5 z6
       obtain ⟨z0, z1, z2, z3, z4, z5, z6⟩ := cells7 hE
       exact bodyPost_ret (v := .tuple #[.int .i64 0, .agg #[.int .i64 0, .int .i64 0, .int .i64 0, .int .i64 0, .slice none 0 0, .slice none 0 0, .slice none 0 0], .iface 69 (.int .i64 3)]) (by simp [results, Tryz.results80, go_sem, z0, z1, z2, z3, z4, z5, z6]) rfl ⟨0, stz, plz, _, rfl, ((HE.out.1.trans (HB.out.mono HE.out.1.size)).trans (H4.out.1.mono (Nat.le_trans HE.out.1.size HB.out.size))).trans (hbQ _ HE.out.2.2.1), Or.inl ⟨HN.out, rfl, rfl, rfl, rfl⟩⟩
     | true =>
       subst hmv
       have HN := jI (decS_yes (show okS b = true by rw [HOK.out, ← hmb, HY.out, decide_eq_true (show 1 ≤ r.n by have := HN1.out; omega)]; rfl))
       clear hmb
       go_upto_region 4 with (go_at_call 28; go_must (refine CM.out.mono ?_; rintro y w4 ⟨rfl, hb4⟩; have TZ4 := (hb4.block g (by have := HE.out.2.2.2; have := HB.out.size; omega)).trans TZ; have TY4 := (hb4.block g2 (obj_lt H3.out.1)).trans H3.out.1; have H4 := jI (jA hb4 (jA TZ4 TY4)); clear hb4 TZ4 TY4 z0 z1 z2 z3 z4 z5 z6 f0 f1 f2 f3 f4 f5 f6 y0 y1 y2 y3 y4 y5 y6 TZ))
       obtain ⟨V5, hV5⟩ : ∃ V, V = w4.drew := ⟨_, rfl⟩
       have H5 := jI (show V5.heap[g2]? = some (.cells #[.int .i64 r.s.term, .int .i64 r.s.vote, .int .i64 r.s.log.base, .int .i64 r.s.log.term, .slice q.AL q.nL q.cL, .slice q.AC q.nC q.cC, .slice q.AS q.nS q.cS] 35 (0, 0)) ∧ V5.heap[g]? = some (.cells #[.int .i64 0, .int .i64 0, .int .i64 0, .int .i64 0, .slice none 0 0, .slice none 0 0, .slice none 0 0] 35 (0, 0)) ∧ Below V2.heap.size V2 V5 ∧ V5.heap = w4.heap from by rw [hV5]; exact ⟨H4.out.2.2, H4.out.2.1, H4.out.1.drew, rfl⟩)
       refine wp_region_held_drew (S := fun W => W.heap[g2]? = some (.cells #[.int .i64 r.s.term, .int .i64 r.s.vote, .int .i64 r.s.log.base, .int .i64 r.s.log.term, .slice q.AL q.nL q.cL, .slice q.AC q.nC q.cC, .slice q.AS q.nS q.cS] 35 (0, 0))) (by kernel_rfl) (by rw [← hV5]; exact H5.out.1) (fun hHeld => ?_)
       rw [← hV5]
       rw [← hV5] at hHeld
       clear hV5
       refine wpAnyH_take (i := 0) (oi := { dst := Option.some 28, op := Op.move (Operand.tmp 5), type := 3, pos := "bytes.go:46", after := #[], guard := Option.none }) (v := .int .i64 (r.n : Int)) rfl (by kernel_rfl) (by kernel_rfl) (by kernel_rfl) (fun _ _ _ h => h) (Or.inl ⟨by rfl, ?_⟩) hHeld ?_
       · intro W hSw
         go_simp
       simp only [Act.put, qA, qB, qC]
       refine wpAnyH_take (i := 1) (oi := { dst := Option.some 29, op := Op.load 35 (Operand.tmp 6), type := 35, pos := "bytes.go:46", after := #[{ on := 2, ground := Ground.gcOnly Departure.lateStores }], guard := Option.none }) (v := .agg #[.int .i64 r.s.term, .int .i64 r.s.vote, .int .i64 r.s.log.base, .int .i64 r.s.log.term, .slice q.AL q.nL q.cL, .slice q.AC q.nC q.cC, .slice q.AS q.nS q.cS]) rfl (by kernel_rfl) (by kernel_rfl) (by kernel_rfl) (fun _ _ _ h => h) (Or.inl ⟨by rfl, ?_⟩) hHeld ?_
       · intro W hSw
         obtain ⟨y0, y1, y2, y3, y4, y5, y6⟩ := cells7 hSw
         go_simp
       simp only [Act.put, qA, qB, qC]
       refine wpAnyH_take (i := 2) (oi := { dst := Option.some 2, op := Op.assign (Operand.tmp 28), type := 3, pos := "bytes.go:46", after := #[{ on := 0, ground := Ground.data }, { on := 0, ground := Ground.phase }, { on := 1, ground := Ground.textOnly Departure.lateStores }], guard := Option.none }) (v := .int .i64 (r.n : Int)) rfl (by kernel_rfl) (by kernel_rfl) (by kernel_rfl) (fun _ _ _ h => h) (Or.inl ⟨by rfl, ?_⟩) hHeld ?_
       · intro W hSw
         go_simp
       simp only [Act.put, qA, qB, qC]
       have TZ := H5.out.2.1
       obtain ⟨z0, z1, z2, z3, z4, z5, z6⟩ := cells7 TZ
       have f0 := frozen_own TZ 0; have f1 := frozen_own TZ 1; have f2 := frozen_own TZ 2; have f3 := frozen_own TZ 3; have f4 := frozen_own TZ 4; have f5 := frozen_own TZ 5; have f6 := frozen_own TZ 6
       refine wpAnyH_ready (rs := [3]) (by kernel_rfl) (by simp) ?_
       refine AllReadyH.cons (o := { dst := Option.none, op := Op.store 35 (Operand.tmp 3) (Operand.tmp 29), type := 0, pos := "bytes.go:46", after := #[{ on := 1, ground := Ground.data }, { on := 2, ground := Ground.chain }, { on := 0, ground := Ground.phase }, { on := 1, ground := Ground.phase }, { on := 2, ground := Ground.phase }], guard := Option.none }) rfl (fun K hK => ?_) AllReadyH.nil
       go_simp
       obtain ⟨F, hF, hE, hbQ, hoth, hsF⟩ := put7 TZ (.int .i64 r.s.term) (.int .i64 r.s.vote) (.int .i64 r.s.log.base) (.int .i64 r.s.log.term) (.slice q.AL q.nL q.cL) (.slice q.AC q.nC q.cC) (.slice q.AS q.nS q.cS)
       rw [← hF]
       have H15 := jI (jA hE (jA hbQ (jA hoth hsF)))
       clear hF z0 z1 z2 z3 z4 z5 z6 f0 f1 f2 f3 f4 f5 f6 TZ hE hbQ hoth hsF
       have hgg : g2 ≠ g := by have h1 := H3.out.2.2.2; have h2 := HE.out.2.2.2; have h3 := H2.out.1.size; omega
       refine hK.out _ _ ((H15.out.2.2.1 g2 hgg).trans H5.out.1) (fun hHeld2 => ?_)
       clear hK K hHeld
       have hHeld := hHeld2
       clear hHeld2
       refine wpAnyH_take (i := 4) (oi := { dst := Option.some 4, op := Op.assign (Operand.const Value.nilIface), type := 27, pos := "bytes.go:46", after := #[{ on := 3, ground := Ground.chain }, { on := 0, ground := Ground.phase }, { on := 1, ground := Ground.phase }, { on := 2, ground := Ground.phase }, { on := 3, ground := Ground.phase }], guard := Option.none }) (v := .nilIface) rfl (by kernel_rfl) (by kernel_rfl) (by kernel_rfl) (fun _ _ _ h => h) (Or.inl ⟨by rfl, ?_⟩) hHeld ?_
       · intro W hSw
         go_simp
       simp only [Act.put, qA, qB, qC]
       clear hHeld
       refine wpAnyH_done (by kernel_rfl) ?_ _
       have hbF : Below w.heap.size w F := ((HE.out.1.trans (HB.out.mono HE.out.1.size)).trans (H5.out.2.2.1.mono (Nat.le_trans HE.out.1.size HB.out.size))).trans (H15.out.2.1 _ HE.out.2.2.1)
       obtain ⟨z0, z1, z2, z3, z4, z5, z6⟩ := cells7 H15.out.1
       go_wp2_with fail
       refine bodyPost_ret (v := .tuple #[.int .i64 (r.n : Int), .agg #[.int .i64 r.s.term, .int .i64 r.s.vote, .int .i64 r.s.log.base, .int .i64 r.s.log.term, .slice q.AL q.nL q.cL, .slice q.AC q.nC q.cC, .slice q.AS q.nS q.cS], .nilIface]) (by simp [results, Tryz.results80, go_sem, z0, z1, z2, z3, z4, z5, z6]) rfl ?_
       have hkk : ∀ k, W1.heap.size ≤ k ∧ k < w2.heap.size → k < w2.heap.size → F.heap[k]? = w2.heap[k]? := fun k hk hk2 => by
         have h1 := HE.out.2.2.2
         have h2 := H3.out.2.1.size
         rw [H15.out.2.2.1 k (by omega), H5.out.2.2.1.block k (by omega), H3.out.2.1.block k hk2]
       have hsF : w2.heap.size ≤ F.heap.size := by
         have h1 := H3.out.2.1.size
         have h2 := H5.out.2.2.1.size
         rw [H15.out.2.2.2]; omega
       have h1 := HE.out.1.size
       exact ⟨(r.n : Int), r.s, q, .nilIface, rfl, hbF, Or.inr ⟨r.n, by rw [HN.out, ← HR.out], rfl, rfl, HRW.out.1.move hkk fun k hk => ⟨by have := hk.1; omega, by have := hk.2; omega⟩, HRW.out.2⟩⟩
end
section
set_option maxHeartbeats 8000000 in
theorem scopied_any (s : St) (q : Pl) (w : World) (hL : Inp s.log q.AL q.nL q.cL w) (hC : Ints w (.slice q.AC q.nC q.cC) s.conf) (hS : Bys w (.slice q.AS q.nS q.cS) s.snap) (hm : mayE s.log = true) (hc : mayC s.conf = true) (hn : s.snap.length ≤ 2000000) :
   Calls Tryz.prog 32 #[stV s q] w fun e w' => ∃ q', e = .returned (stV s q') ∧ Fresh w w' s q' ∧ Below w.heap.size w w' := by
 obtain ⟨W1, g0, hW1, hg0, hb1, hq1, hsz1⟩ := one_box w (.cells #[.int .i64 s.term, .int .i64 s.vote, .int .i64 s.log.base, .int .i64 s.log.term, .slice q.AL q.nL q.cL, .slice q.AC q.nC q.cC, .slice q.AS q.nS q.cS] 35)
 obtain ⟨W2, g1, hW2, hg1, hb2, hq2, hsz2⟩ := one_box W1 (.cells #[.int .i64 0, .int .i64 0, .int .i64 0, .int .i64 0, .slice none 0 0, .slice none 0 0, .slice none 0 0] 35)
 have hres : Tryz.f32.results = #[.cell 2 35] := by kernel_rfl
 have hg1' : g1 = w.heap.size + 1 := by omega
 obtain ⟨nE, hnE⟩ : ∃ nE, nE = s.log.l.length := ⟨_, rfl⟩
 have hbm := (may_ok hm).1
 have kb : IntKind.i64.wrap (s.log.base + 1) = s.log.base + 1 := by rw [IntKind.wrap_i64]; omega
 have hb12 : Below w.heap.size w W2 := hb1.trans (hb2.mono hb1.size)
 have hQ2 : W2.heap[g0]? = some (.cells #[.int .i64 s.term, .int .i64 s.vote, .int .i64 s.log.base, .int .i64 s.log.term, (.slice q.AL q.nL q.cL), (.slice q.AC q.nC q.cC), (.slice q.AS q.nS q.cS)] 35 (0, 0)) := (hb2.block g0 (by omega)).trans hq1
 obtain ⟨hmC, -, -, -⟩ := hC.at_
 have hmS := hS.len_
 have hnC : 0 < q.nC ∧ q.nC ≤ 1000 := by have := (mayC_ok hc).1; omega
 have CF := jI (From_g s.log q.AL q.nL q.cL (s.log.base + 1) 4096 W2 (hL.below hb12) s.log.l (from_all hm).symm nE hnE)
 have CC := jI fun W (hW : Below w.heap.size w W) => clone_own q.AC q.nC q.cC s.conf W (hC.below hW) hnC.1 hnC.2
 have CB := jI fun W (hW : Below w.heap.size w W) => BClone_any W q.AS q.nS q.cS s.snap (hS.below hW) (by omega)
 have HE := jI (jA hb12 (jA hQ2 (jA hq2 (jA hg1' (jA (show g0 = w.heap.size from hg0) (jA hsz2 (jA hnE (jA hmC hmS))))))))
 have HW := jI (jA hW1 hW2)
 have HG := jI (jA hg1' hg0)
 have hne : g1 ≠ g0 := by omega
 have hne' : g0 ≠ g1 := by omega
 obtain ⟨z0, z1, z2, z3, z4, z5, z6⟩ := cells7 hQ2
 clear hL hC hS hm hc hn hW1 hg0 hW2 hg1 hb1 hq1 hsz1 hb2 hq2 hsz2 hg1' hnE hbm hb12 hQ2 hmC hmS hnC
 unfold stV
 go_enter Tryz.func32, Tryz.ntmps32
 go_upto_region 1 with fail
 rw [← HW.out.1, ← HW.out.2, ← HG.out.1, ← HG.out.2]
 go_wp2_with (first
   | (go_at_call 77; go_must (refine CF.out.mono ?_; clear CF z0 z1 z2 z3 z4 z5 z6; rintro y w3 ⟨A3, c3, rfl, hfe, hb3⟩; have B3 : Below w.heap.size w w3 := HE.out.1.trans (hb3.mono HE.out.1.size); have Q3 : w3.heap[g0]? = some (.cells #[.int .i64 s.term, .int .i64 s.vote, .int .i64 s.log.base, .int .i64 s.log.term, (.slice q.AL q.nL q.cL), (.slice q.AC q.nC q.cC), (.slice q.AS q.nS q.cS)] 35 (0, 0)) := (hb3.block g0 (obj_lt HE.out.2.1)).trans HE.out.2.1; obtain ⟨-, -, -, -, z4, z5, -⟩ := cells7 Q3; have f4 := frozen_own Q3 4; obtain ⟨W4, hW4⟩ : ∃ W, W = w3.setCell ⟨g0, 4, none⟩ (.slice A3 nE c3) := ⟨_, rfl⟩; have Y3 := jI (show w3.heap[g1]? = some (.cells #[.int .i64 0, .int .i64 0, .int .i64 0, .int .i64 0, .slice none 0 0, .slice none 0 0, .slice none 0 0] 35 (0, 0)) from (hb3.block g1 (obj_lt HE.out.2.2.1)).trans HE.out.2.2.1); have H3 := jI (jA hfe (jA hb3 (jA B3 (jA Q3 hW4)))); clear hfe hb3 B3 Q3 hW4))
   | (go_at_call 78; rw [← H3.out.2.2.2.2]; have B4 : Below w.heap.size w W4 := (by rw [H3.out.2.2.2.2]; exact H3.out.2.2.1.setCell (show w.heap.size ≤ _ from Nat.le_of_eq HE.out.2.2.2.2.1.symm) _); go_must (refine (CC.out W4 B4).mono ?_; clear CC z4 z5 f4; rintro y w5 ⟨g5, k5, rfl, ho5, hb5⟩; have B5 : Below w.heap.size w w5 := B4.trans (hb5.mono B4.size); have Q4 : W4.heap[g0]? = some (.cells #[.int .i64 s.term, .int .i64 s.vote, .int .i64 s.log.base, .int .i64 s.log.term, (.slice A3 nE c3), (.slice q.AC q.nC q.cC), (.slice q.AS q.nS q.cS)] 35 (0, 0)) := (by rw [H3.out.2.2.2.2]; exact setc H3.out.2.2.2.1 _); have Q5 : w5.heap[g0]? = some (.cells #[.int .i64 s.term, .int .i64 s.vote, .int .i64 s.log.base, .int .i64 s.log.term, (.slice A3 nE c3), (.slice q.AC q.nC q.cC), (.slice q.AS q.nS q.cS)] 35 (0, 0)) := (hb5.block g0 (obj_lt Q4)).trans Q4; obtain ⟨-, -, -, -, -, z5, z6⟩ := cells7 Q5; have f5 := frozen_own Q5 5; obtain ⟨W6, hW6⟩ : ∃ W, W = w5.setCell ⟨g0, 5, none⟩ (.slice (some ⟨g5, 0, none⟩) q.nC k5) := ⟨_, rfl⟩; have Y4 : W4.heap[g1]? = some (.cells #[.int .i64 0, .int .i64 0, .int .i64 0, .int .i64 0, .slice none 0 0, .slice none 0 0, .slice none 0 0] 35 (0, 0)) := (by rw [H3.out.2.2.2.2]; exact (setc_oth _ (by have := HE.out.2.2.2.1; have := HE.out.2.2.2.2.1; omega)).trans Y3.out); have Y5 := jI (show w5.heap[g1]? = some (.cells #[.int .i64 0, .int .i64 0, .int .i64 0, .int .i64 0, .slice none 0 0, .slice none 0 0, .slice none 0 0] 35 (0, 0)) from (hb5.block g1 (obj_lt Y4)).trans Y4); clear Y4; have H5 := jI (jA ho5 (jA hb5 (jA B5 (jA Q5 hW6)))); clear ho5 hb5 B4 B5 Q4 Q5 hW6))
   | (go_at_call 79; rw [← H5.out.2.2.2.2]; have B6 : Below w.heap.size w W6 := (by rw [H5.out.2.2.2.2]; exact H5.out.2.2.1.setCell (show w.heap.size ≤ _ from Nat.le_of_eq HE.out.2.2.2.2.1.symm) _); go_must (refine (CB.out W6 B6).mono ?_; clear CB z5 z6 f5; rintro y w7 ⟨A7, c7, rfl, hd7, hb7⟩; have B7 : Below w.heap.size w w7 := B6.trans (hb7.mono B6.size); have Q6 : W6.heap[g0]? = some (.cells #[.int .i64 s.term, .int .i64 s.vote, .int .i64 s.log.base, .int .i64 s.log.term, (.slice A3 nE c3), (.slice (some ⟨g5, 0, none⟩) q.nC k5), (.slice q.AS q.nS q.cS)] 35 (0, 0)) := (by rw [H5.out.2.2.2.2]; exact setc H5.out.2.2.2.1 _); have Q7 : w7.heap[g0]? = some (.cells #[.int .i64 s.term, .int .i64 s.vote, .int .i64 s.log.base, .int .i64 s.log.term, (.slice A3 nE c3), (.slice (some ⟨g5, 0, none⟩) q.nC k5), (.slice q.AS q.nS q.cS)] 35 (0, 0)) := (hb7.block g0 (obj_lt Q6)).trans Q6; obtain ⟨z0, z1, z2, z3, z4, z5, z6⟩ := cells7 Q7; have f6 := frozen_own Q7 6; have Y6 : W6.heap[g1]? = some (.cells #[.int .i64 0, .int .i64 0, .int .i64 0, .int .i64 0, .slice none 0 0, .slice none 0 0, .slice none 0 0] 35 (0, 0)) := (by rw [H5.out.2.2.2.2]; exact (setc_oth _ (by have := HE.out.2.2.2.1; have := HE.out.2.2.2.2.1; omega)).trans Y5.out); have Y7 := (hb7.block g1 (obj_lt Y6)).trans Y6; clear Y6; obtain ⟨y0, y1, y2, y3, y4, y5, y6⟩ := cells7 Y7; have e0 := frozen_own Y7 0; have e1 := frozen_own Y7 1; have e2 := frozen_own Y7 2; have e3 := frozen_own Y7 3; have e4 := frozen_own Y7 4; have e5 := frozen_own Y7 5; have e6 := frozen_own Y7 6; have HY7 := jI Y7; clear Y7; have H7 := jI (jA hd7 (jA hb7 (jA B7 Q7))); clear hd7 hb7 B6 B7 Q6 Q7)))
 obtain ⟨W8, hW8⟩ : ∃ W, W = w7.setCell ⟨g0, 6, none⟩ (.slice A7 q.nS c7) := ⟨_, rfl⟩
 have Y8 : W8.heap[g1]? = some (.cells #[.int .i64 0, .int .i64 0, .int .i64 0, .int .i64 0, .slice none 0 0, .slice none 0 0, .slice none 0 0] 35 (0, 0)) := by rw [hW8]; exact (setc_oth _ hne).trans HY7.out
 obtain ⟨F, hF⟩ : ∃ F, F = ((((((W8.setCell ⟨g1, 0, none⟩ (.int .i64 s.term)).setCell ⟨g1, 1, none⟩ (.int .i64 s.vote)).setCell ⟨g1, 2, none⟩ (.int .i64 s.log.base)).setCell ⟨g1, 3, none⟩ (.int .i64 s.log.term)).setCell ⟨g1, 4, none⟩ (.slice A3 nE c3)).setCell ⟨g1, 5, none⟩ (.slice (some ⟨g5, 0, none⟩) q.nC k5)).setCell ⟨g1, 6, none⟩ (.slice A7 q.nS c7) := ⟨_, rfl⟩
 rw [← hW8, ← hF]
 have hoF : OnlyP g1 W8 F := by rw [hF]; exact (((((((OnlyP.refl g1 W8).set 0 _).set 1 _).set 2 _).set 3 _).set 4 _).set 5 _).set 6 _
 have ho8 : OnlyP g0 w7 W8 := by rw [hW8]; exact (OnlyP.refl g0 w7).set 6 _
 have ho6 : OnlyP g0 w5 W6 := by rw [H5.out.2.2.2.2]; exact (OnlyP.refl g0 w5).set 5 _
 have ho4 : OnlyP g0 w3 W4 := by rw [H3.out.2.2.2.2]; exact (OnlyP.refl g0 w3).set 4 _
 have hFc : F.heap[g1]? = some (.cells #[.int .i64 s.term, .int .i64 s.vote, .int .i64 s.log.base, .int .i64 s.log.term, .slice A3 nE c3, .slice (some ⟨g5, 0, none⟩) q.nC k5, .slice A7 q.nS c7] 35 (0, 0)) := by
   rw [hF]; exact setc (setc (setc (setc (setc (setc (setc Y8 _) _) _) _) _) _) _
 have hs2 := HE.out.2.2.2.2.2.1
 have hg0' := HE.out.2.2.2.2.1
 have hg1' := HE.out.2.2.2.1
 have s7 : F.heap.size = w7.heap.size := hoF.size.trans ho8.size
 have s6 : W6.heap.size = w5.heap.size := ho6.size
 have s4 : W4.heap.size = w3.heap.size := ho4.size
 have l3 := H3.out.2.1.size
 have l5 := H5.out.2.1.size
 have l7 := H7.out.2.1.size
 have k7 : ∀ k, W2.heap.size ≤ k → F.heap[k]? = w7.heap[k]? := fun k hk => (hoF.block k (by omega)).trans (ho8.block k (by omega))
 have k5' : ∀ k, W2.heap.size ≤ k → k < w5.heap.size → F.heap[k]? = w5.heap[k]? := fun k hk hl => (k7 k hk).trans ((H7.out.2.1.block k (by omega)).trans (ho6.block k (by omega)))
 have k3 : ∀ k, W2.heap.size ≤ k → k < w3.heap.size → F.heap[k]? = w3.heap[k]? := fun k hk hl => (k5' k hk (by omega)).trans ((H5.out.2.1.block k (by omega)).trans (ho4.block k (by omega)))
 have hbF : Below w.heap.size w F := by
   refine ⟨hoF.os.trans (ho8.os.trans H7.out.2.2.1.os), hoF.tape.trans (ho8.tape.trans H7.out.2.2.1.tape), hoF.output.trans (ho8.output.trans H7.out.2.2.1.output), by have := H7.out.2.2.1.size; omega, fun k hk => ?_⟩
   exact (hoF.block k (by omega)).trans ((ho8.block k (by omega)).trans (H7.out.2.2.1.block k hk))
 have hfr : Fresh w F s { q with AL := A3, nL := nE, cL := c3, AC := some ⟨g5, 0, none⟩, nC := q.nC, cC := k5, AS := A7, nS := q.nS, cS := c7 } := by
   have h5lt := H5.out.1.lt g5 rfl
   refine ⟨H3.out.1.1.move (fun k hk hl => k3 k hk.1 hl) fun k hk => ⟨by have := hk.1; omega, by have := hk.2; omega⟩, ?_, (H7.out.1.kept fun k hk hl => k7 k (by have := hk.1; omega)).mono fun k hk => ⟨by have := hk.1; omega, by have := hk.2; omega⟩⟩
   have hr := RowT.of_own (own_kept2 H5.out.1 (w' := F) fun g hg => k5' g (by have := (H5.out.1.lt g hg).1; omega) (H5.out.1.lt g hg).2) (fun k => w.heap.size ≤ k ∧ k < F.heap.size) fun g hg => ⟨by have := (H5.out.1.lt g hg).1; omega, by have := (H5.out.1.lt g hg).2; omega⟩
   have hmC := HE.out.2.2.2.2.2.2.2.1
   unfold IntsT
   rw [← hmC]
   exact hr
 refine bodyPost_ret (v := stV s { q with AL := A3, nL := nE, cL := c3, AC := some ⟨g5, 0, none⟩, nC := q.nC, cC := k5, AS := A7, nS := q.nS, cS := c7 }) ?_ rfl ⟨_, rfl, hfr, hbF⟩
 obtain ⟨x0, x1, x2, x3, x4, x5, x6⟩ := cells7 hFc
 clear hfr hbF k3 k5' k7 l3 l5 l7 s4 s6 s7 hg1' hg0' hs2 hFc ho4 ho6 ho8 hoF hF Y8 hW8 z0 z1 z2 z3 z4 z5 z6 y0 y1 y2 y3 y4 y5 y6 e0 e1 e2 e3 e4 e5 e6 f6
 unfold stV
 simp only [results, hres]
 go_simp
end
end Go.Proofs.YtncaefocijainaaGreatDoor.pk
