import Derived.Test.YtncaefocijainaaGreatDoorG36
import Derived.Test.YtncaefocijainaaGreatDoorG41
import Derived.Test.YtncaefocijainaaGreatDoorG35
import Derived.Lib.QuietBelow
import Derived.BigQuiet
import Derived.Test.YtncaefocijainaaGreatDoorG32
import Derived.Test.YtncaefocijainaaGreatDoorG21
namespace Go.Proofs.YtncaefocijainaaGreatDoor.pk
open Go Go.RowKit
set_option maxRecDepth 100000
section
theorem texts_ne {a b : List UInt8} (h : a ≠ b) : ((⟨a.toArray⟩ : ByteArray).toList == (⟨b.toArray⟩ : ByteArray).toList) = false := by
 rw [beq_eq_false_iff_ne]
 simpa using h
theorem BEq_any (A : Option Addr) (n c : Nat) (a : List UInt8) (A' : Option Addr) (n' c' : Nat) (b : List UInt8) (w : World) (h : Bys w (.slice A n c) a) (h' : Bys w (.slice A' n' c') b) (r : Bool) (hr : r = decide (a = b)) :
   Calls Tryz.prog 66 #[.slice A n c, .slice A' n' c'] w fun y w' => y = .returned (.bool r) ∧ Below w.heap.size w w' := by
 have v1 := conv_bytes h.sl_
 have v2 := conv_bytes h'.sl_
 clear h h'
 by_cases e : a = b
 · subst e
   have HR := jI (hr.trans (decide_eq_true rfl))
   clear hr
   go_enter Tryz.func66, Tryz.ntmps66
   go_wp2_with fail
   go_ret
   exact ⟨by rw [HR.out]; simp, Below.refl _ _⟩
 · have HR := jI (hr.trans (decide_eq_false e))
   have HE := jI (texts_ne e)
   clear hr e
   go_enter Tryz.func66, Tryz.ntmps66
   go_wp2_with fail
   go_ret
   exact ⟨by rw [HR.out]; first | rfl | (simp only [HE.out]; rfl) | (have := HE.out; simp_all), Below.refl _ _⟩
def enV (e : En) (A : Option Addr) (n c : Nat) : Value := .agg #[.int .i64 e.index, .int .i64 e.term, .int .i64 e.kind, .slice A n c]
set_option maxHeartbeats 8000000 in
theorem sameEn_any (a : En) (A : Option Addr) (n c : Nat) (b : En) (A' : Option Addr) (n' c' : Nat) (w : World) (h : Bys w (.slice A n c) a.data) (h' : Bys w (.slice A' n' c') b.data) (r : Bool) (hr : r = decide (enT a = enT b)) :
   Calls Tryz.prog 68 #[enV a A n c, enV b A' n' c'] w fun y w' => y = .returned (.bool r) ∧ Below w.heap.size w w' := by
 obtain ⟨W1, g0, g1, hW1, hg0, hg1, hb1, hq0, hq1, hsz⟩ := two_box w (.cells #[.int .i64 a.index, .int .i64 a.term, .int .i64 a.kind, .slice A n c] 151) (.cells #[.int .i64 b.index, .int .i64 b.term, .int .i64 b.kind, .slice A' n' c'] 151)
 have HQ := jI fun r' hr' => BEq_any A n c a.data A' n' c' b.data W1 (h.below hb1) (h'.below hb1) r' hr'
 obtain ⟨x0, x1, x2, x3⟩ := cells4 hq0
 obtain ⟨y0, y1, y2, y3⟩ := cells4 hq1
 have HW := jI (jA hW1 (jA hg0 hg1))
 have HE := jI hb1
 have hg1' : g1 = w.heap.size + 1 := by omega
 have HG := jI hg1'
 have hrt : r = (decide (a.index = b.index) && decide (a.term = b.term) && decide (a.kind = b.kind) && decide (a.data = b.data)) := by
   rw [hr]
   unfold enT
   simp only [Prod.mk.injEq]
   by_cases h1 : a.index = b.index <;> by_cases h2 : a.term = b.term <;> by_cases h3 : a.kind = b.kind <;> by_cases h4 : a.data = b.data <;> simp [h1, h2, h3, h4]
 clear h h' hW1 hg0 hg1 hb1 hq0 hq1 hsz hr hg1'
 unfold enV
 obtain ⟨i, hi⟩ : ∃ i, i = a.index := ⟨_, rfl⟩
 obtain ⟨i', hi'⟩ : ∃ i, i = b.index := ⟨_, rfl⟩
 obtain ⟨t, ht⟩ : ∃ i, i = a.term := ⟨_, rfl⟩
 obtain ⟨t', ht'⟩ : ∃ i, i = b.term := ⟨_, rfl⟩
 obtain ⟨k, hk⟩ : ∃ i, i = a.kind := ⟨_, rfl⟩
 obtain ⟨k', hk'⟩ : ∃ i, i = b.kind := ⟨_, rfl⟩
 rw [← hi, ← hi', ← ht, ← ht', ← hk, ← hk'] at hrt
 simp only [← hi, ← ht, ← hk] at HW x0 x1 x2 ⊢
 simp only [← hi', ← ht', ← hk'] at HW y0 y1 y2 ⊢
 clear hi hi' ht ht' hk hk'
 by_cases e1 : i = i'
 rotate_left
 · have n1 : (i == i') = false := by simpa using e1
   have HR := jI (show r = false by rw [hrt, decide_eq_false e1]; rfl)
   clear hrt e1
   go_enter Tryz.func68, Tryz.ntmps68
   go_upto_region 1 with fail
   rw [← HW.out.1, ← HG.out, ← HW.out.2.1]
   go_wp2_with fail
   go_ret
   exact ⟨by rw [HR.out]; rfl, HE.out⟩
 subst e1
 by_cases e2 : t = t'
 rotate_left
 · have n1 : (t == t') = false := by simpa using e2
   have HR := jI (show r = false by rw [hrt, decide_eq_false e2]; simp)
   clear hrt e2
   go_enter Tryz.func68, Tryz.ntmps68
   go_upto_region 1 with fail
   rw [← HW.out.1, ← HG.out, ← HW.out.2.1]
   go_wp2_with fail
   go_ret
   exact ⟨by rw [HR.out]; rfl, HE.out⟩
 subst e2
 by_cases e3 : k = k'
 rotate_left
 · have n1 : (k == k') = false := by simpa using e3
   have HR := jI (show r = false by rw [hrt, decide_eq_false e3]; simp)
   clear hrt e3
   go_enter Tryz.func68, Tryz.ntmps68
   go_upto_region 1 with fail
   rw [← HW.out.1, ← HG.out, ← HW.out.2.1]
   go_wp2_with fail
   go_ret
   exact ⟨by rw [HR.out]; rfl, HE.out⟩
 subst e3
 have HR := jI (HQ.out r (by rw [hrt]; simp))
 clear hrt HQ
 go_enter Tryz.func68, Tryz.ntmps68
 go_upto_region 1 with fail
 rw [← HW.out.1, ← HG.out, ← HW.out.2.1]
 go_wp2_with (go_at_call 66; go_must (refine HR.out.mono ?_; rintro y w2 ⟨rfl, hb2⟩; have H2 := jI (HE.out.trans (hb2.mono HE.out.size)); clear hb2))
 go_ret
 exact ⟨rfl, H2.out⟩
theorem map_next {l m : List En} {j : Nat} (hl : j < l.length) (hm : j < m.length) (h : (l.take j).map enT = (m.take j).map enT) (he : enT l[j] = enT m[j]) : (l.take (j + 1)).map enT = (m.take (j + 1)).map enT := by
 rw [List.take_succ_eq_append_getElem hl, List.take_succ_eq_append_getElem hm, List.map_append, List.map_append, h]
 simp [he]
set_option maxHeartbeats 8000000 in
theorem EqF_any (A : Option Addr) (n c : Nat) (l : List En) (A' : Option Addr) (n' c' : Nat) (m : List En) (w : World) (h : Ents w (.slice A n c) l) (h' : Ents w (.slice A' n' c') m) (r : Bool) (hr : r = decide (l.map enT = m.map enT)) :
   Calls Tryz.prog 67 #[.slice A n c, .slice A' n' c', .func (.func 68) #[] #[]] w fun y w' => y = .returned (.bool r) ∧ Below w.heap.size w w' := by
 have eg : ∀ args w, (callFunc 68 args).run Tryz.prog w = .ok (.enter 68 args) w := enters_of Tryz.func68 (by kernel_rfl) rfl
 obtain ⟨hn, hnc, hcm⟩ := h.len_
 obtain ⟨hn', hnc', hcm'⟩ := h'.len_
 have in1 : (n : Int) ≤ 9223372036854775807 := by omega
 have in2 : (n' : Int) ≤ 9223372036854775807 := by omega
 have HH := jI (jA h (jA h' (jA hn (jA hn' hr))))
 clear h h' hn hnc hcm hn' hnc' hcm' hr
 by_cases hl : n = n'
 rotate_left
 · have hl' : ((n : Int) != (n' : Int)) = true := by simp; omega
   have hl2 : ¬ (n : Int) = (n' : Int) := by omega
   go_enter Tryz.func67, Tryz.ntmps67
   go_wp2_with fail
   go_ret
   refine ⟨?_, Below.refl _ _⟩
   show Ending.returned (.bool false) = _
   rw [HH.out.2.2.2.2, decide_eq_false fun e => hl (by have := congrArg List.length e; rw [List.length_map, List.length_map] at this; rw [HH.out.2.2.1, HH.out.2.2.2.1, this])]
 subst hl
 go_enter Tryz.func67, Tryz.ntmps67
 go_wp2_with fail
 go_loopw [17] (fun ii wr => ∃ (j : Nat), j ≤ n ∧ ii = .int .i64 (j : Int) ∧ Hid ((l.take j).map enT = (m.take j).map enT) ∧ Below w.heap.size w wr) (fun ii _ => n - (intOf ii).toNat)
 case atStart => exact ⟨0, Nat.zero_le _, rfl, jI rfl, Below.refl _ _⟩
 case round =>
   obtain ⟨j, hj, rfl, HT, hbw⟩ := hrel
   by_cases hlt : j < n
   · have ii : (j : Int) < (n : Int) := by omega
     have hjl : j < l.length := by have := HH.out.2.2.1; omega
     have hjm : j < m.length := by have := HH.out.2.2.2.1; omega
     obtain ⟨bk, off, Ad, cd, rfl, hbb, hok, q0, q1, q2, q3, hdat⟩ := (HH.out.1.below hbw).at_ j hjl
     obtain ⟨bk', off', Ad', cd', rfl, hbb', hok', p0, p1, p2, p3, hdat'⟩ := (HH.out.2.1.below hbw).at_ j hjm
     have HN := jI fun he => map_next hjl hjm HT.out he
     have HN2 := jI (fun (he : l.map enT = m.map enT) => show enT l[j] = enT m[j] from by
       have := congrArg (fun z => z[j]?) he
       simpa [hjl, hjm] using this)
     obtain ⟨e, he⟩ : ∃ e, e = l[j] := ⟨_, rfl⟩
     obtain ⟨e', he'⟩ : ∃ e, e = m[j] := ⟨_, rfl⟩
     rw [← he] at q0 q1 q2 q3 hdat
     rw [← he'] at p0 p1 p2 p3 hdat'
     obtain ⟨d, hd⟩ : ∃ d, d = e.data.length := ⟨_, rfl⟩
     obtain ⟨d', hd'⟩ : ∃ d, d = e'.data.length := ⟨_, rfl⟩
     rw [← hd] at q3 hdat
     rw [← hd'] at p3 hdat'
     obtain ⟨W2, g0, g1, hW2, hg0, hg1, hb2, hx0, hx1, hsz⟩ := two_box wr (.cells #[.int .i64 e.index, .int .i64 e.term, .int .i64 e.kind, .slice Ad d cd] 151) (.cells #[.int .i64 e'.index, .int .i64 e'.term, .int .i64 e'.kind, .slice Ad' d' cd'] 151)
     obtain ⟨bs, hbs⟩ : ∃ bs, bs = decide (enT e = enT e') := ⟨_, rfl⟩
     have CS := sameEn_any e Ad d cd e' Ad' d' cd' W2 (hdat.below hb2) (hdat'.below hb2) bs hbs
     unfold enV at CS
     have CS := jI CS
     have HB := jI (hbw.trans (hb2.mono hbw.size))
     have HBS := jI (jA hbs (jA he he'))
     have HW := jI (jA hW2 (jA hg0 (show g1 = wr.heap.size + 1 by omega)))
     obtain ⟨x0, x1, x2, x3⟩ := cells4 hx0
     obtain ⟨y0, y1, y2, y3⟩ := cells4 hx1
     have p0' := (((Below.refl wr.heap.size wr).alloc (Nat.le_refl _) (.cells #[.int .i64 e.index, .int .i64 e.term, .int .i64 e.kind, .slice Ad d cd] 151)).cell (p := ⟨bk', off' + j * 4, none⟩) hbb').trans p0
     have p1' := (((Below.refl wr.heap.size wr).alloc (Nat.le_refl _) (.cells #[.int .i64 e.index, .int .i64 e.term, .int .i64 e.kind, .slice Ad d cd] 151)).cell (p := ⟨bk', off' + j * 4 + 1, none⟩) hbb').trans p1
     have p2' := (((Below.refl wr.heap.size wr).alloc (Nat.le_refl _) (.cells #[.int .i64 e.index, .int .i64 e.term, .int .i64 e.kind, .slice Ad d cd] 151)).cell (p := ⟨bk', off' + j * 4 + 2, none⟩) hbb').trans p2
     have p3' := (((Below.refl wr.heap.size wr).alloc (Nat.le_refl _) (.cells #[.int .i64 e.index, .int .i64 e.term, .int .i64 e.kind, .slice Ad d cd] 151)).cell (p := ⟨bk', off' + j * 4 + 3, none⟩) hbb').trans p3
     have ij0 : (0 : Int) ≤ (j : Int) := by omega
     clear hdat hdat' hok hok' hbw hbb hbb' hd hd' he he' hbs hW2 hg0 hg1 hb2 hx0 hx1 hsz p0 p1 p2 p3
     cases bs with
     | false =>
       go_upto_region 7 with fail
       rw [← HW.out.1, ← HW.out.2.2, ← HW.out.2.1]
       go_wp2_with (go_at_fn 68; refine CS.out.mono ?_; rintro y w' ⟨rfl, hb'⟩; have H1 := jI (HB.out.trans (hb'.mono HB.out.size)); clear hb')
       go_ret
       refine ⟨?_, H1.out⟩
       show Ending.returned (.bool false) = _
       rw [HH.out.2.2.2.2, decide_eq_false fun e' => by
         have := HN2.out e'
         rw [← HBS.out.2.1, ← HBS.out.2.2] at this
         exact absurd HBS.out.1 (by rw [decide_eq_true this]; decide)]
     | true =>
       go_upto_region 7 with fail
       rw [← HW.out.1, ← HW.out.2.2, ← HW.out.2.1]
       go_wp2_with (go_at_fn 68; refine CS.out.mono ?_; rintro y w' ⟨rfl, hb'⟩; have H1 := jI (HB.out.trans (hb'.mono HB.out.size)); clear hb')
       go_roundw
       case rel => exact ⟨j + 1, by omega, by go_num, jI (HN.out (by rw [← HBS.out.2.1, ← HBS.out.2.2]; exact of_decide_eq_true HBS.out.1.symm)), H1.out⟩
       case measure => simp [intOf]; omega
   · obtain rfl : j = n := by omega
     have ii : ¬ (j : Int) < (j : Int) := by omega
     go_wp2_with fail
     go_ret
     refine ⟨?_, hbw⟩
     show Ending.returned (.bool true) = _
     have h1 := HT.out
     rw [List.take_of_length_le (by have := HH.out.2.2.1; omega), List.take_of_length_le (by have := HH.out.2.2.2.1; omega)] at h1
     rw [HH.out.2.2.2.2, decide_eq_true h1]
end
section
def sameX (s t : St) : Bool := decide (s.term = t.term) && (decide (s.vote = t.vote) && (sameE s.log t.log && (decide (s.conf = t.conf) && decide (s.snap = t.snap))))
theorem sameX_refl (s : St) : sameX s s = true := by unfold sameX; rw [sameE_refl]; simp
set_option maxHeartbeats 16000000 in
theorem sameStored_any (s : St) (q : Pl) (t : St) (v : Pl) (w : World) (hg : StdG w) (hL : Ents w (.slice q.AL q.nL q.cL) s.log.l) (hC : Ints w (.slice q.AC q.nC q.cC) s.conf) (hS : Bys w (.slice q.AS q.nS q.cS) s.snap)
   (hL' : Ents w (.slice v.AL v.nL v.cL) t.log.l) (hC' : Ints w (.slice v.AC v.nC v.cC) t.conf) (hS' : Bys w (.slice v.AS v.nS v.cS) t.snap) (sm : SmallE 1000000 100000 s.log.l) (sm' : SmallE 1000000 100000 t.log.l) :
   Calls Tryz.prog 19 #[stV s q, stV t v] w fun y w' => y = .returned (.bool (sameX s t)) ∧ Below w.heap.size w w' := by
 obtain ⟨ta, hta⟩ : ∃ i, i = s.term := ⟨_, rfl⟩
 obtain ⟨tb, htb⟩ : ∃ i, i = t.term := ⟨_, rfl⟩
 obtain ⟨va, hva⟩ : ∃ i, i = s.vote := ⟨_, rfl⟩
 obtain ⟨vb, hvb⟩ : ∃ i, i = t.vote := ⟨_, rfl⟩
 obtain ⟨W1, g0, g1, hW1, hg0, hg1, hb1, hq0, hq1, hsz⟩ := two_box w (.cells #[.int .i64 ta, .int .i64 va, .int .i64 s.log.base, .int .i64 s.log.term, .slice q.AL q.nL q.cL, .slice q.AC q.nC q.cC, .slice q.AS q.nS q.cS] 35) (.cells #[.int .i64 tb, .int .i64 vb, .int .i64 t.log.base, .int .i64 t.log.term, .slice v.AL v.nL v.cL, .slice v.AC v.nC v.cC, .slice v.AS v.nS v.cS] 50)
 obtain ⟨x0, x1, x2, x3, x4, x5, x6⟩ := cells7 hq0
 obtain ⟨y0, y1, y2, y3, y4, y5, y6⟩ := cells7 hq1
 obtain ⟨be, hbe⟩ : ∃ be, be = sameE s.log t.log := ⟨_, rfl⟩
 obtain ⟨bc, hbc⟩ : ∃ bc, bc = decide (s.conf = t.conf) := ⟨_, rfl⟩
 have hr : sameX s t = (decide (ta = tb) && (decide (va = vb) && (be && (bc && decide (s.snap = t.snap))))) := by unfold sameX; rw [← hbe, ← hbc, hta, htb, hva, hvb]
 have kE := jI (sameLog_any s.log _ _ _ t.log _ _ _ W1 (hg.below hb1) (hL.below hb1) (hL'.below hb1) sm sm' be hbe)
 have kC := jI fun W (hW : Below W1.heap.size W1 W) => ints_any _ _ _ _ _ _ _ _ W ((hC.below hb1).below hW) ((hC'.below hb1).below hW) bc hbc
 have HC := jI fun W (hW : Below W1.heap.size W1 W) => jA (cells7 ((hW.block g0 (obj_lt hq0)).trans hq0)) (cells7 ((hW.block g1 (obj_lt hq1)).trans hq1))
 obtain ⟨X1, hX1⟩ : ∃ X : ByteArray, X = ⟨s.snap.toArray⟩ := ⟨_, rfl⟩
 obtain ⟨X2, hX2⟩ : ∃ X : ByteArray, X = ⟨t.snap.toArray⟩ := ⟨_, rfl⟩
 have HV := jI fun W (hW : Below W1.heap.size W1 W) => (show (convert 33 9 (.slice q.AS q.nS q.cS)).run Tryz.prog W = .ok (.string X1) W ∧ (convert 33 9 (.slice v.AS v.nS v.cS)).run Tryz.prog W = .ok (.string X2) W from by
   rw [hX1, hX2]; exact ⟨conv_bytes ((hS.below hb1).below hW).sl_, conv_bytes ((hS'.below hb1).below hW).sl_⟩)
 have HX := jI (jA hX1 hX2)
 have HW := jI (jA hW1 (jA hg0 (show g1 = w.heap.size + 1 by omega)))
 have HE := jI hb1
 have HR := jI hr
 unfold stV
 rw [← hta, ← htb, ← hva, ← hvb]
 clear hg hL hC hS hL' hC' hS' sm sm' hW1 hg0 hg1 hb1 hq0 hq1 hsz hbe hbc hr hX1 hX2 hta htb hva hvb
 by_cases h1 : ta = tb
 rotate_left
 · have hz : (ta == tb) = false := beq_eq_false_iff_ne.2 h1
   have HR2 := jI (show sameX s t = false by rw [HR.out]; rw [decide_eq_false h1]; rfl)
   clear HR
   go_enter Tryz.func19, Tryz.ntmps19
   go_upto_region 1 with fail
   rw [← HW.out.1, ← HW.out.2.2, ← HW.out.2.1]
   go_wp2_with (first
     | (go_at_call 46; go_must (refine kE.out.mono ?_; rintro y w3 ⟨rfl, hb⟩; have H3 := jI hb; clear x0 x1 x2 x3 x4 x5 x6 y0 y1 y2 y3 y4 y5 y6 hb; obtain ⟨⟨x0, x1, x2, x3, x4, x5, x6⟩, y0, y1, y2, y3, y4, y5, y6⟩ := HC.out w3 H3.out))
     | (go_at_call 33; go_must (refine (kC.out w3 H3.out).mono ?_; rintro y w4 ⟨rfl, hb⟩; have H4 := jI (H3.out.trans (hb.mono H3.out.size)); clear x0 x1 x2 x3 x4 x5 x6 y0 y1 y2 y3 y4 y5 y6 hb; obtain ⟨⟨x0, x1, x2, x3, x4, x5, x6⟩, y0, y1, y2, y3, y4, y5, y6⟩ := HC.out w4 H4.out; obtain ⟨v1, v2⟩ := HV.out w4 H4.out)))
   go_ret
   exact ⟨ret_bool HR2.out.symm, HE.out⟩
 subst h1
 by_cases h2 : va = vb
 rotate_left
 · have hz : (va == vb) = false := beq_eq_false_iff_ne.2 h2
   have HR2 := jI (show sameX s t = false by rw [HR.out]; rw [decide_eq_false h2]; simp)
   clear HR
   go_enter Tryz.func19, Tryz.ntmps19
   go_upto_region 1 with fail
   rw [← HW.out.1, ← HW.out.2.2, ← HW.out.2.1]
   go_wp2_with (first
     | (go_at_call 46; go_must (refine kE.out.mono ?_; rintro y w3 ⟨rfl, hb⟩; have H3 := jI hb; clear x0 x1 x2 x3 x4 x5 x6 y0 y1 y2 y3 y4 y5 y6 hb; obtain ⟨⟨x0, x1, x2, x3, x4, x5, x6⟩, y0, y1, y2, y3, y4, y5, y6⟩ := HC.out w3 H3.out))
     | (go_at_call 33; go_must (refine (kC.out w3 H3.out).mono ?_; rintro y w4 ⟨rfl, hb⟩; have H4 := jI (H3.out.trans (hb.mono H3.out.size)); clear x0 x1 x2 x3 x4 x5 x6 y0 y1 y2 y3 y4 y5 y6 hb; obtain ⟨⟨x0, x1, x2, x3, x4, x5, x6⟩, y0, y1, y2, y3, y4, y5, y6⟩ := HC.out w4 H4.out; obtain ⟨v1, v2⟩ := HV.out w4 H4.out)))
   go_ret
   exact ⟨ret_bool HR2.out.symm, HE.out⟩
 subst h2
 cases be with
 | false =>
   have HR2 := jI (show sameX s t = false by rw [HR.out]; simp)
   clear HR
   go_enter Tryz.func19, Tryz.ntmps19
   go_upto_region 1 with fail
   rw [← HW.out.1, ← HW.out.2.2, ← HW.out.2.1]
   go_wp2_with (first
     | (go_at_call 46; go_must (refine kE.out.mono ?_; rintro y w3 ⟨rfl, hb⟩; have H3 := jI hb; clear x0 x1 x2 x3 x4 x5 x6 y0 y1 y2 y3 y4 y5 y6 hb; obtain ⟨⟨x0, x1, x2, x3, x4, x5, x6⟩, y0, y1, y2, y3, y4, y5, y6⟩ := HC.out w3 H3.out))
     | (go_at_call 33; go_must (refine (kC.out w3 H3.out).mono ?_; rintro y w4 ⟨rfl, hb⟩; have H4 := jI (H3.out.trans (hb.mono H3.out.size)); clear x0 x1 x2 x3 x4 x5 x6 y0 y1 y2 y3 y4 y5 y6 hb; obtain ⟨⟨x0, x1, x2, x3, x4, x5, x6⟩, y0, y1, y2, y3, y4, y5, y6⟩ := HC.out w4 H4.out; obtain ⟨v1, v2⟩ := HV.out w4 H4.out)))
   go_ret
   exact ⟨ret_bool HR2.out.symm, HE.out.trans (H3.out.mono HE.out.size)⟩
 | true =>
 cases bc with
 | false =>
   have HR2 := jI (show sameX s t = false by rw [HR.out]; simp)
   clear HR
   go_enter Tryz.func19, Tryz.ntmps19
   go_upto_region 1 with fail
   rw [← HW.out.1, ← HW.out.2.2, ← HW.out.2.1]
   go_wp2_with (first
     | (go_at_call 46; go_must (refine kE.out.mono ?_; rintro y w3 ⟨rfl, hb⟩; have H3 := jI hb; clear x0 x1 x2 x3 x4 x5 x6 y0 y1 y2 y3 y4 y5 y6 hb; obtain ⟨⟨x0, x1, x2, x3, x4, x5, x6⟩, y0, y1, y2, y3, y4, y5, y6⟩ := HC.out w3 H3.out))
     | (go_at_call 33; go_must (refine (kC.out w3 H3.out).mono ?_; rintro y w4 ⟨rfl, hb⟩; have H4 := jI (H3.out.trans (hb.mono H3.out.size)); clear x0 x1 x2 x3 x4 x5 x6 y0 y1 y2 y3 y4 y5 y6 hb; obtain ⟨⟨x0, x1, x2, x3, x4, x5, x6⟩, y0, y1, y2, y3, y4, y5, y6⟩ := HC.out w4 H4.out; obtain ⟨v1, v2⟩ := HV.out w4 H4.out)))
   go_ret
   exact ⟨ret_bool HR2.out.symm, HE.out.trans (H4.out.mono HE.out.size)⟩
 | true =>
 by_cases h3 : s.snap = t.snap
 · have hX : X1 = X2 := by rw [HX.out.1, HX.out.2, h3]
   have HR2 := jI (show sameX s t = true by rw [HR.out, decide_eq_true h3]; simp)
   clear HR h3 HX
   subst hX
   go_enter Tryz.func19, Tryz.ntmps19
   go_upto_region 1 with fail
   rw [← HW.out.1, ← HW.out.2.2, ← HW.out.2.1]
   go_wp2_with (first
     | (go_at_call 46; go_must (refine kE.out.mono ?_; rintro y w3 ⟨rfl, hb⟩; have H3 := jI hb; clear x0 x1 x2 x3 x4 x5 x6 y0 y1 y2 y3 y4 y5 y6 hb; obtain ⟨⟨x0, x1, x2, x3, x4, x5, x6⟩, y0, y1, y2, y3, y4, y5, y6⟩ := HC.out w3 H3.out))
     | (go_at_call 33; go_must (refine (kC.out w3 H3.out).mono ?_; rintro y w4 ⟨rfl, hb⟩; have H4 := jI (H3.out.trans (hb.mono H3.out.size)); clear x0 x1 x2 x3 x4 x5 x6 y0 y1 y2 y3 y4 y5 y6 hb; obtain ⟨⟨x0, x1, x2, x3, x4, x5, x6⟩, y0, y1, y2, y3, y4, y5, y6⟩ := HC.out w4 H4.out; obtain ⟨v1, v2⟩ := HV.out w4 H4.out)))
   go_ret
   exact ⟨ret_bool HR2.out.symm, HE.out.trans (H4.out.mono HE.out.size)⟩
 · have hne : (X1.toList == X2.toList) = false := by rw [HX.out.1, HX.out.2]; exact text_neL h3
   have HR2 := jI (show sameX s t = false by rw [HR.out]; rw [decide_eq_false h3]; simp)
   clear HR h3
   go_enter Tryz.func19, Tryz.ntmps19
   go_upto_region 1 with fail
   rw [← HW.out.1, ← HW.out.2.2, ← HW.out.2.1]
   go_wp2_with (first
     | (go_at_call 46; go_must (refine kE.out.mono ?_; rintro y w3 ⟨rfl, hb⟩; have H3 := jI hb; clear x0 x1 x2 x3 x4 x5 x6 y0 y1 y2 y3 y4 y5 y6 hb; obtain ⟨⟨x0, x1, x2, x3, x4, x5, x6⟩, y0, y1, y2, y3, y4, y5, y6⟩ := HC.out w3 H3.out))
     | (go_at_call 33; go_must (refine (kC.out w3 H3.out).mono ?_; rintro y w4 ⟨rfl, hb⟩; have H4 := jI (H3.out.trans (hb.mono H3.out.size)); clear x0 x1 x2 x3 x4 x5 x6 y0 y1 y2 y3 y4 y5 y6 hb; obtain ⟨⟨x0, x1, x2, x3, x4, x5, x6⟩, y0, y1, y2, y3, y4, y5, y6⟩ := HC.out w4 H4.out; obtain ⟨v1, v2⟩ := HV.out w4 H4.out)))
   go_ret
   exact ⟨ret_bool HR2.out.symm, HE.out.trans (H4.out.mono HE.out.size)⟩
end
end Go.Proofs.YtncaefocijainaaGreatDoor.pk
