import Derived.Test.YtncaefocijainaaGreatDoorG13
import Derived.Deep.RegionHeld3
import Derived.Lib.QuietBelow
import Derived.BigQuiet
import Derived.Deep.QuietTactic
import Derived.IntWalk
import Derived.Outline
import Derived.RegionTactic
import Derived.Deep.CutBlock
import Derived.Test.YtncaefocijainaaGreatDoorG21
namespace Go.Proofs.YtncaefocijainaaGreatDoor.pk
open Go Go.RowKit
set_option maxRecDepth 100000
section
theorem below_round {w wr w' : World} (h : Below w.heap.size w wr) (hb : Below wr.heap.size wr w') : Below w.heap.size w w' := h.trans (hb.mono h.size)
theorem ret_bool {a b : Bool} (h : a = b) : Ending.returned (.bool a) = Ending.returned (.bool b) := by rw [h]
end
section
theorem behindE_drop {i t : Int} {l : List En} {j : Nat} (hj : j < l.length) : behindE i t (l.drop j) = (goodE i t l[j] && behindE (i + 1) l[j].term (l.drop (j + 1))) := by
 rw [List.drop_eq_getElem_cons hj]; rfl
set_option maxHeartbeats 4000000 in
theorem Behind_any (i t : Int) (A : Option Addr) (n c : Nat) (l : List En) (w : World) (h : Ents w (.slice A n c) l) (hi : inI i) (ht : inI t) (b : Bool) (hb : b = behindE i t l) :
   Calls Tryz.prog 115 #[.int .i64 i, .int .i64 t, .slice A n c] w fun y w' => y = .returned (.bool b) ∧ Below w.heap.size w w' := by
 obtain ⟨hn, hnc, hcm⟩ := h.len_
 have in1 : (n : Int) ≤ 9223372036854775807 := by omega
 have HH := jI (jA h (jA hn hb))
 have HI := jI (jA hi ht)
 clear h hn hnc hcm hb hi ht
 go_enter Tryz.func115, Tryz.ntmps115
 go_wp2_with fail
 go_loopw [1, 7] (fun tt ii wr => ∃ (j : Nat) (t' : Int), j ≤ n ∧ ii = .int .i64 (j : Int) ∧ tt = .int .i64 t' ∧ Hid (inI t' ∧ b = behindE (i + (j : Int)) t' (l.drop j)) ∧ Below w.heap.size w wr) (fun _ ii _ => n - (intOf ii).toNat)
 case atStart => exact ⟨0, t, Nat.zero_le _, rfl, rfl, jI ⟨HI.out.2, by rw [List.drop_zero]; simpa using HH.out.2.2⟩, Below.refl _ _⟩
 case round =>
   obtain ⟨j, t', hj, rfl, rfl, HB, hbw⟩ := hrel
   by_cases hlt : j < n
   · have ii : (j : Int) < (n : Int) := by omega
     have hjl : j < l.length := by have := HH.out.2.1; omega
     obtain ⟨bk, off, Ad, cd, rfl, hbb, hok, q0, q1, q2, q3, -⟩ := HH.out.1.at_ j hjl
     have hbd := behindE_drop (i := i + (j : Int)) (t := t') hjl
     obtain ⟨e, he⟩ : ∃ e, e = l[j] := ⟨_, rfl⟩
     rw [← he] at hok q0 q1 q2 q3 hbd
     rw [← HB.out.2] at hbd
     have p0 := (hbw.cell (p := ⟨bk, off + j * 4, none⟩) hbb).trans q0
     have p1 := (hbw.cell (p := ⟨bk, off + j * 4 + 1, none⟩) hbb).trans q1
     have p2 := (hbw.cell (p := ⟨bk, off + j * 4 + 2, none⟩) hbb).trans q2
     have p3 := (hbw.cell (p := ⟨bk, off + j * 4 + 3, none⟩) hbb).trans q3
     obtain ⟨⟨k0, k0'⟩, ⟨k1, k1'⟩, ⟨k2, k2'⟩⟩ := hok
     obtain ⟨m, hm⟩ : ∃ m, m = e.data.length := ⟨_, rfl⟩
     rw [← hm] at p3
     have HBD := jI (jA hbd (jA hm (jA hbw HI.out)))
     clear hbb q0 q1 q2 q3 hbd he hm hbw
     go_wp2_with fail
     all_goals first
       | (go_roundw
          case rel =>
            have hg : goodE (i + (j : Int)) t' e = true := goodE_iff.2 (by have := HBD.out.2.1; omega)
            refine ⟨j + 1, e.term, by omega, by go_num, rfl, jI ⟨⟨k1, k1'⟩, ?_⟩, below_round HBD.out.2.2.1 (below_alloc _ _)⟩
            rw [HBD.out.1, hg, Bool.true_and]
            congr 1
            omega
          case measure => simp [intOf]; omega)
       | (go_ret
          have hg : goodE (i + (j : Int)) t' e = false := by
            refine Bool.eq_false_iff.2 fun h => ?_
            have := goodE_iff.1 h
            have := HBD.out.2.1
            omega
          exact ⟨by rw [HBD.out.1, hg]; rfl, below_round HBD.out.2.2.1 (below_alloc _ _)⟩)
   · obtain rfl : j = n := by omega
     have ii : ¬ (j : Int) < (j : Int) := by omega
     go_wp2_with fail
     go_ret
     exact ⟨by have := HB.out.2; rw [List.drop_eq_nil_of_le (by have := HH.out.2.1; omega)] at this; rw [this]; rfl, hbw⟩
set_option maxHeartbeats 4000000 in
theorem May_any (l : Lg) (A : Option Addr) (n c : Nat) (w : World) (h : Ents w (.slice A n c) l.l) (hi : inI l.base) (ht : inI l.term) (b : Bool) (hb : b = mayE l) :
   Calls Tryz.prog 85 #[.agg #[.int .i64 l.base, .int .i64 l.term, .slice A n c]] w fun y w' => y = .returned (.bool b) ∧ Below w.heap.size w w' := by
 obtain ⟨hn, hnc, hcm⟩ := h.len_
 obtain ⟨base, tm, es⟩ := l
 have HH := jI (jA h (jA hn hb))
 have HI := jI (jA hi ht)
 obtain ⟨i1, i2⟩ := hi
 obtain ⟨i3, i4⟩ := ht
 simp only at i1 i2 i3 i4 HH HI ⊢
 have HC := jI fun W (hW : Below w.heap.size w W) => Behind_any base tm A n c es W (HH.out.1.below hW) HI.out.1 HI.out.2 _ rfl
 have HA := jI (below_alloc w)
 clear h hn hnc hcm hb
 by_cases hz : (base = 0 ↔ tm = 0)
 · have hz1 : (base == 0) = (tm == 0) := by rw [Bool.eq_iff_iff, beq_iff_eq, beq_iff_eq]; exact hz
   go_enter Tryz.func85, Tryz.ntmps85
   go_wp2_with (go_at_call 115; go_must (refine (HC.out _ (HA.out _)).mono ?_; rintro y w1 ⟨rfl, hb1⟩; have HB := jI ((HA.out _).trans (hb1.mono (HA.out _).size)); clear hb1))
   all_goals first
     | (go_ret
        have hg : headE ⟨base, tm, es⟩ = true := headE_iff.2 (by have := HH.out.2.1; simp only; omega)
        exact ⟨by rw [HH.out.2.2]; unfold mayE; rw [hg, Bool.true_and]; rfl, HB.out⟩)
     | (go_ret
        have hg : headE ⟨base, tm, es⟩ = false := by
          refine Bool.eq_false_iff.2 fun h => ?_
          have := headE_iff.1 h
          have := HH.out.2.1
          simp only at *
          omega
        exact ⟨by rw [HH.out.2.2]; unfold mayE; rw [hg, Bool.false_and]; rfl, HA.out _⟩)
 · have hz1 : ¬ (base == 0) = (tm == 0) := by rw [Bool.eq_iff_iff, beq_iff_eq, beq_iff_eq]; exact hz
   have hg : headE ⟨base, tm, es⟩ = false := by
     refine Bool.eq_false_iff.2 fun h => ?_
     exact hz (headE_iff.1 h).2.2.2.2.1
   have HG := jI hg
   clear hz hg
   go_enter Tryz.func85, Tryz.ntmps85
   go_wp2_with (go_at_call 115; fail)
   all_goals
     go_ret
     exact ⟨by rw [HH.out.2.2]; unfold mayE; rw [HG.out, Bool.false_and]; rfl, HA.out _⟩
end
section
theorem endE_nil {l : Lg} (h : l.l.length = 0) : endE l = (l.base, l.term) := by
 have : l.l = [] := List.eq_nil_of_length_eq_zero h
 unfold endE; rw [this]; rfl
theorem endE_more {l : Lg} {k : Nat} (h : l.l.length = k + 1) (hk : k < l.l.length) : endE l = (l.l[k].index, l.l[k].term) := by
 unfold endE
 rw [List.getLast?_eq_getElem?, h, Nat.add_sub_cancel, List.getElem?_eq_getElem hk]
theorem lastE_may {l : Lg} (h : mayE l = true) : lastE l = endE l := by unfold lastE; rw [if_pos h]
theorem lastE_not {l : Lg} (h : mayE l = false) : lastE l = (0, 0) := by unfold lastE; rw [h]; rfl
theorem mayE_parts {l : Lg} (h : mayE l = true) : 0 ≤ l.base ∧ l.base ≤ 1099511627776 ∧ 0 ≤ l.term ∧ l.term ≤ 1099511627776 ∧ l.l.length ≤ 4096 ∧ (endE l).1 = l.base + l.l.length ∧ (endE l).1 ≤ 1099511627776 ∧ 0 ≤ (endE l).2 ∧ (endE l).2 ≤ 1099511627776 := by
 have hh := headE_iff.1 (mayE_iff.1 h).1
 have hb := (mayE_iff.1 h).2
 have he := endE_index h
 refine ⟨hh.1, hh.2.1, hh.2.2.1, hh.2.2.2.1, hh.2.2.2.2.2, he, ?_⟩
 cases hn : l.l.length with
 | zero => rw [endE_nil hn]; simp only; omega
 | succ k =>
   have hk : k < l.l.length := by omega
   have := behindE_at hb k hk
   rw [endE_more hn hk]
   simp only
   omega
set_option maxHeartbeats 4000000 in
theorem Last_any (l : Lg) (A : Option Addr) (n c : Nat) (w : World) (h : Ents w (.slice A n c) l.l) (hi : inI l.base) (ht : inI l.term) (r : Int × Int) (hr : r = lastE l) :
   Calls Tryz.prog 84 #[.agg #[.int .i64 l.base, .int .i64 l.term, .slice A n c]] w fun y w' => y = .returned (.tuple #[.int .i64 r.1, .int .i64 r.2]) ∧ Below w.heap.size w w' := by
 obtain ⟨hn, hnc, hcm⟩ := h.len_
 have HA := jI (below_alloc w)
 have HC := jI fun b (hb : b = mayE l) W (hW : Below w.heap.size w W) => May_any l A n c W (h.below hW) hi ht b hb
 cases hm : mayE l with
 | false =>
   have HM := HC.out false hm.symm _ (HA.out (.cells #[.int .i64 l.base, .int .i64 l.term, .slice A n c] 48))
   have HR := jI (hr.trans (lastE_not hm))
   clear h hn hnc hcm hr hm HC
   go_enter Tryz.func84, Tryz.ntmps84
   go_wp2_with (go_at_call 85; go_must (refine HM.mono ?_; rintro y w1 ⟨rfl, hb1⟩; have HB := jI ((HA.out _).trans (hb1.mono (HA.out _).size)); clear hb1))
   go_ret2
   exact ⟨by rw [HR.out]; rfl, HB.out⟩
 | true =>
   have HM := jI (HC.out true hm.symm _ (HA.out (.cells #[.int .i64 l.base, .int .i64 l.term, .slice A n c] 48)))
   have hp := mayE_parts hm
   have HR := jI (hr.trans (lastE_may hm))
   have hq := heap_alloc_new w (.cells #[.int .i64 l.base, .int .i64 l.term, .slice A n c] 48)
   have hb := HA.out (.cells #[.int .i64 l.base, .int .i64 l.term, .slice A n c] 48)
   have hcells : ∀ W, Below (w.heap.size + 1) (w.alloc (.cells #[.int .i64 l.base, .int .i64 l.term, .slice A n c] 48)) W → W.cell? ⟨w.heap.size, 0, none⟩ = some (.int .i64 l.base) ∧ W.cell? ⟨w.heap.size, 1, none⟩ = some (.int .i64 l.term) ∧ W.cell? ⟨w.heap.size, 2, none⟩ = some (.slice A n c) := by
     intro W hW
     have e := (hW.block w.heap.size (by omega)).trans hq
     refine ⟨?_, ?_, ?_⟩ <;> (rw [cell_of_row W w.heap.size _ _ _ (0, 0) e]; rfl)
   have HCL := jI hcells
   have hsz : (w.alloc (.cells #[.int .i64 l.base, .int .i64 l.term, .slice A n c] 48)).heap.size = w.heap.size + 1 := World.size_alloc _ _
   have HSZ := jI hsz
   by_cases h0 : n = 0
   · subst h0
     have HE := jI (HR.out.trans (endE_nil hn.symm))
     clear h hn hnc hcm hr hm HC hp HR hq hb hcells hsz
     go_enter Tryz.func84, Tryz.ntmps84
     go_upto_region 3 with (go_at_call 85; go_must (refine HM.out.mono ?_; rintro y w1 ⟨rfl, hb1⟩; obtain ⟨x0, x1, x2⟩ := HCL.out w1 (by rw [HSZ.out] at hb1; exact hb1); have HB := jI ((HA.out _).trans (hb1.mono (HA.out _).size)); clear hb1))
     go_wp2_with fail
     go_quiet (fail)
     go_wp2_with fail
     go_ret2
     exact ⟨by rw [HE.out]; rfl, below_drawn HB.out _⟩
   · obtain ⟨k, hkn⟩ : ∃ k, n = k + 1 := ⟨n - 1, by omega⟩
     have hk : k < l.l.length := by omega
     have HE := jI (HR.out.trans (endE_more (hn.symm.trans hkn) hk))
     obtain ⟨bk, off, Ad, cd, rfl, hbb, hok, q0, q1, -⟩ := h.at_ k hk
     obtain ⟨e, he⟩ : ∃ e, e = l.l[k] := ⟨_, rfl⟩
     rw [← he] at q0 q1 HE
     have s1 : IntKind.i64.wrap ((n : Int) - 1) = (k : Int) := by rw [IntWalk.i64_in _ (by omega)]; omega
     have s2 : (k : Int) < (n : Int) := by omega
     have s3 : (n : Int) ≤ (c : Int) := by omega
     have s4 : ((n : Int) == 0) = false := beq_eq_false_iff_ne.2 (by omega)
     have HQ := jI (jA q0 (jA q1 hbb))
     clear h hn hcm hr hm HC hp HR hq hb hcells hsz hk q0 q1 hok he hbb h0 hkn hnc
     go_enter Tryz.func84, Tryz.ntmps84
     go_upto_region 3 with (go_at_call 85; go_must (refine HM.out.mono ?_; rintro y w1 ⟨rfl, hb1⟩; obtain ⟨x0, x1, x2⟩ := HCL.out w1 (by rw [HSZ.out] at hb1; exact hb1); have HB := jI ((HA.out _).trans (hb1.mono (HA.out _).size)); clear hb1; have p0 := (HB.out.cell (p := ⟨bk, off + k * 4, none⟩) HQ.out.2.2).trans HQ.out.1; have p1 := (HB.out.cell (p := ⟨bk, off + k * 4 + 1, none⟩) HQ.out.2.2).trans HQ.out.2.1))
     go_wp2_with fail
     go_quiet (fail)
     go_wp2_with fail
     go_ret2
     exact ⟨by rw [HE.out]; rfl, below_drawn HB.out _⟩
end
section
def cntE (n : Int) : Bool := decide (1 ≤ n ∧ n ≤ 1099511627776)
def kndE (n : Int) : Bool := decide (0 ≤ n ∧ n ≤ 2)
def fitE (e : En) : Bool := decide (1 ≤ e.index ∧ e.index ≤ 1099511627776 ∧ 1 ≤ e.term ∧ e.term ≤ 1099511627776 ∧ 0 ≤ e.kind ∧ e.kind ≤ 2 ∧ e.data.length ≤ 4096)
theorem cntE_true {n : Int} : cntE n = true ↔ 1 ≤ n ∧ n ≤ 1099511627776 := by unfold cntE; exact decide_eq_true_iff
theorem cntE_false {n : Int} : cntE n = false ↔ ¬ (1 ≤ n ∧ n ≤ 1099511627776) := by unfold cntE; exact decide_eq_false_iff_not
theorem kndE_true {n : Int} : kndE n = true ↔ 0 ≤ n ∧ n ≤ 2 := by unfold kndE; exact decide_eq_true_iff
theorem kndE_false {n : Int} : kndE n = false ↔ ¬ (0 ≤ n ∧ n ≤ 2) := by unfold kndE; exact decide_eq_false_iff_not
theorem fitE_true {e : En} : fitE e = true ↔ 1 ≤ e.index ∧ e.index ≤ 1099511627776 ∧ 1 ≤ e.term ∧ e.term ≤ 1099511627776 ∧ 0 ≤ e.kind ∧ e.kind ≤ 2 ∧ e.data.length ≤ 4096 := by unfold fitE; exact decide_eq_true_iff
theorem fitE_false {e : En} : fitE e = false ↔ ¬ (1 ≤ e.index ∧ e.index ≤ 1099511627776 ∧ 1 ≤ e.term ∧ e.term ≤ 1099511627776 ∧ 0 ≤ e.kind ∧ e.kind ≤ 2 ∧ e.data.length ≤ 4096) := by unfold fitE; exact decide_eq_false_iff_not
theorem counts_any (n : Int) (w : World) (b : Bool) (hb : b = cntE n) : Calls Tryz.prog 123 #[.int .i64 n] w fun y w' => y = .returned (.bool b) ∧ w = w' := by
 have HB := jI hb
 clear hb
 have hc : ¬ 1 ≤ n ∨ (1 ≤ n ∧ ¬ n ≤ 1099511627776) ∨ (1 ≤ n ∧ n ≤ 1099511627776) := by omega
 rcases hc with h1 | ⟨h1, h2⟩ | ⟨h1, h2⟩
 all_goals
   go_enter Tryz.func123, Tryz.ntmps123
   go_wp2_with fail
   go_ret
   exact ⟨ret_bool (by rw [HB.out]; first | exact (cntE_true.2 (by omega)).symm | exact (cntE_false.2 (by omega)).symm), rfl⟩
theorem isKind_any (n : Int) (w : World) (b : Bool) (hb : b = kndE n) : Calls Tryz.prog 150 #[.int .i64 n] w fun y w' => y = .returned (.bool b) ∧ w = w' := by
 have HB := jI hb
 clear hb
 have hc : ¬ 0 ≤ n ∨ (0 ≤ n ∧ ¬ n ≤ 2) ∨ (0 ≤ n ∧ n ≤ 2) := by omega
 rcases hc with h1 | ⟨h1, h2⟩ | ⟨h1, h2⟩
 all_goals
   go_enter Tryz.func150, Tryz.ntmps150
   go_wp2_with fail
   go_ret
   exact ⟨ret_bool (by rw [HB.out]; first | exact (kndE_true.2 (by omega)).symm | exact (kndE_false.2 (by omega)).symm), rfl⟩
set_option maxHeartbeats 4000000 in
theorem may_any (e : En) (A : Option Addr) (n c : Nat) (w : World) (hn : n = e.data.length) (hn2 : n ≤ 9223372036854775807) (b : Bool) (hb : b = fitE e) :
   Calls Tryz.prog 139 #[.agg #[.int .i64 e.index, .int .i64 e.term, .int .i64 e.kind, .slice A n c]] w fun y w' => y = .returned (.bool b) ∧ Below w.heap.size w w' := by
 obtain ⟨W1, g, hW1, hg, hb1, hq, hsz⟩ := one_box w (.cells #[.int .i64 e.index, .int .i64 e.term, .int .i64 e.kind, .slice A n c] 151)
 have HW := jI (jA hW1 hg)
 have HE := jI (jA hb1 (jA hq hsz))
 obtain ⟨x0, x1, x2, x3⟩ := cells4 hq
 have C0 := jI fun n => counts_any n W1 _ rfl
 have C2 := jI fun n => isKind_any n W1 _ rfl
 have in1 : (n : Int) ≤ 9223372036854775807 := by omega
 have hcase : (cntE e.index = false ∧ b = false) ∨ (cntE e.index = true ∧ cntE e.term = false ∧ b = false) ∨ (cntE e.index = true ∧ cntE e.term = true ∧ kndE e.kind = false ∧ b = false) ∨ (cntE e.index = true ∧ cntE e.term = true ∧ kndE e.kind = true ∧ ¬ (n : Int) ≤ 4096 ∧ b = false) ∨ (cntE e.index = true ∧ cntE e.term = true ∧ kndE e.kind = true ∧ (n : Int) ≤ 4096 ∧ b = true) := by
   rw [hb]
   by_cases h : fitE e = true
   · have h1 := fitE_true.1 h
     exact Or.inr (Or.inr (Or.inr (Or.inr ⟨cntE_true.2 ⟨h1.1, h1.2.1⟩, cntE_true.2 ⟨h1.2.2.1, h1.2.2.2.1⟩, kndE_true.2 ⟨h1.2.2.2.2.1, h1.2.2.2.2.2.1⟩, by omega, h⟩)))
   · have h := Bool.eq_false_iff.2 h
     have h1 := fitE_false.1 h
     cases h2 : cntE e.index with
     | false => exact Or.inl ⟨rfl, h⟩
     | true =>
       cases h3 : cntE e.term with
       | false => exact Or.inr (Or.inl ⟨rfl, rfl, h⟩)
       | true =>
         cases h4 : kndE e.kind with
         | false => exact Or.inr (Or.inr (Or.inl ⟨rfl, rfl, rfl, h⟩))
         | true =>
           have := cntE_true.1 h2
           have := cntE_true.1 h3
           have := kndE_true.1 h4
           exact Or.inr (Or.inr (Or.inr (Or.inl ⟨rfl, rfl, rfl, by omega, h⟩)))
 clear hW1 hg hb1 hq hsz hb hn
 rcases hcase with ⟨h0, rfl⟩ | ⟨h0, h1, rfl⟩ | ⟨h0, h1, h2, rfl⟩ | ⟨h0, h1, h2, h3, rfl⟩ | ⟨h0, h1, h2, h3, rfl⟩
 all_goals
   go_enter Tryz.func139, Tryz.ntmps139
   go_upto_region 1 with fail
   rw [← HW.out.1, ← HW.out.2]
   go_wp2_with (first
     | (go_at_call 123; go_must (refine (C0.out _).mono ?_; rintro y w1 ⟨rfl, rfl⟩))
     | (go_at_call 150; go_must (refine (C2.out _).mono ?_; rintro y w1 ⟨rfl, rfl⟩)))
   go_ret
   exact ⟨by first | rfl | exact ret_bool (decide_eq_false (by omega)) | exact ret_bool (decide_eq_true (by omega)), HE.out.1⟩
theorem good_fit {i t : Int} {e : En} : goodE i t e = (decide (e.index = i + 1) && decide (t ≤ e.term) && fitE e) := by
 rw [Bool.eq_iff_iff, Bool.and_eq_true, Bool.and_eq_true, goodE_iff, fitE_true, decide_eq_true_iff, decide_eq_true_iff]
 constructor <;> (intro h; omega)
set_option maxHeartbeats 4000000 in
theorem follow_any (i t : Int) (A : Option Addr) (n c : Nat) (l : List En) (w : World) (h : Ents w (.slice A n c) l) (hi : inI i) (ht : inI t) (hs : ∀ e ∈ l, e.data.length ≤ 9223372036854775807) (b : Bool) (hb : b = behindE i t l) :
   Calls Tryz.prog 124 #[.int .i64 i, .int .i64 t, .slice A n c] w fun y w' => y = .returned (.bool b) ∧ Below w.heap.size w w' := by
 obtain ⟨hn, hnc, hcm⟩ := h.len_
 have in1 : (n : Int) ≤ 9223372036854775807 := by omega
 have HH := jI (jA h (jA hn (jA hb hs)))
 have HI := jI (jA hi ht)
 clear h hn hnc hcm hb hi ht hs
 go_enter Tryz.func124, Tryz.ntmps124
 go_wp2_with fail
 go_loopw [0, 1, 11] (fun ss tt ii wr => ∃ (j : Nat) (i' t' : Int), j ≤ n ∧ ii = .int .i64 (j : Int) ∧ ss = .int .i64 i' ∧ tt = .int .i64 t' ∧ Hid (inI i' ∧ inI t' ∧ b = behindE i' t' (l.drop j)) ∧ Below w.heap.size w wr) (fun _ _ ii _ => n - (intOf ii).toNat)
 case atStart => exact ⟨0, i, t, Nat.zero_le _, rfl, rfl, rfl, jI ⟨HI.out.1, HI.out.2, by rw [List.drop_zero]; exact HH.out.2.2.1⟩, Below.refl _ _⟩
 case round =>
   obtain ⟨j, i', t', hj, rfl, rfl, rfl, HB, hbw⟩ := hrel
   by_cases hlt : j < n
   · have ii : (j : Int) < (n : Int) := by omega
     have hjl : j < l.length := by have := HH.out.2.1; omega
     obtain ⟨bk, off, Ad, cd, rfl, hbb, hok, q0, q1, q2, q3, -⟩ := HH.out.1.at_ j hjl
     have hbd := behindE_drop (i := i') (t := t') hjl
     have hsm := HH.out.2.2.2 _ (List.getElem_mem hjl)
     obtain ⟨e, he⟩ : ∃ e, e = l[j] := ⟨_, rfl⟩
     rw [← he] at hok q0 q1 q2 q3 hbd hsm
     rw [← HB.out.2.2, good_fit] at hbd
     have p0 := (hbw.cell (p := ⟨bk, off + j * 4, none⟩) hbb).trans q0
     have p1 := (hbw.cell (p := ⟨bk, off + j * 4 + 1, none⟩) hbb).trans q1
     have p2 := (hbw.cell (p := ⟨bk, off + j * 4 + 2, none⟩) hbb).trans q2
     have p3 := (hbw.cell (p := ⟨bk, off + j * 4 + 3, none⟩) hbb).trans q3
     have HM := jI fun W => may_any e Ad e.data.length cd W rfl hsm _ rfl
     obtain ⟨m, hm⟩ : ∃ m, m = e.data.length := ⟨_, rfl⟩
     rw [← hm] at p3 HM
     obtain ⟨k, hk⟩ : ∃ k, k = IntKind.i64.wrap (e.index - 1) := ⟨_, rfl⟩
     have hkk : (fitE e = true → (k = i' ↔ e.index = i' + 1)) := by
       intro hf
       have := fitE_true.1 hf
       rw [hk, IntWalk.i64_in _ (by omega)]
       omega
     have hbf := below_alloc wr (.cells #[.int .i64 e.index, .int .i64 e.term, .int .i64 e.kind, .slice Ad m cd] 151)
     have hcase : (k ≠ i' ∧ b = false) ∨ (k = i' ∧ e.term < t' ∧ b = false) ∨ (k = i' ∧ ¬ e.term < t' ∧ fitE e = false ∧ b = false) ∨ (k = i' ∧ ¬ e.term < t' ∧ fitE e = true ∧ e.index = i' + 1 ∧ b = behindE e.index e.term (l.drop (j + 1))) := by
       cases hf : fitE e with
       | false =>
         rw [hf, Bool.and_false, Bool.false_and] at hbd
         by_cases c1 : k = i'
         · by_cases c2 : e.term < t'
           · exact Or.inr (Or.inl ⟨c1, c2, hbd⟩)
           · exact Or.inr (Or.inr (Or.inl ⟨c1, c2, rfl, hbd⟩))
         · exact Or.inl ⟨c1, hbd⟩
       | true =>
         rw [hf, Bool.and_true] at hbd
         have hkk := hkk hf
         by_cases c1 : k = i'
         · have c3 := hkk.1 c1
           by_cases c2 : e.term < t'
           · rw [decide_eq_false (show ¬ t' ≤ e.term by omega), Bool.and_false, Bool.false_and] at hbd
             exact Or.inr (Or.inl ⟨c1, c2, hbd⟩)
           · rw [decide_eq_true c3, decide_eq_true (show t' ≤ e.term by omega), Bool.true_and, Bool.true_and, ← c3] at hbd
             exact Or.inr (Or.inr (Or.inr ⟨c1, c2, rfl, c3, hbd⟩))
         · rw [decide_eq_false (fun h => c1 (hkk.2 h)), Bool.false_and, Bool.false_and] at hbd
           exact Or.inl ⟨c1, hbd⟩
     have hke := hk.symm
     have HBD := jI (jA hbw hok)
     clear hbb q0 q1 q2 q3 hbd he hm hbw hkk hk hjl hsm hok
     rcases hcase with ⟨c1, c2⟩ | ⟨c1, c2, c3⟩ | ⟨c1, c2, c3, c4⟩ | ⟨c1, c2, c3, c4, c5⟩
     · have HR := jI c2
       clear c2
       go_wp2_with fail
       go_ret
       exact ⟨ret_bool HR.out.symm, below_round HBD.out.1 (below_alloc _ _)⟩
     · have HR := jI c3
       clear c3
       go_wp2_with fail
       go_ret
       exact ⟨ret_bool HR.out.symm, below_round HBD.out.1 (below_alloc _ _)⟩
     · have HR := jI c4
       clear c4
       go_wp2_with (go_at_call 139; go_must (refine (HM.out _).mono ?_; rintro y w1 ⟨rfl, hb1⟩; have HB1 := jI hb1; clear hb1))
       go_ret
       exact ⟨ret_bool HR.out.symm, below_round HBD.out.1 ((below_alloc _ _).trans (HB1.out.mono (by rw [World.size_alloc]; omega)))⟩
     · have HR := jI (jA c4 c5)
       clear c4 c5
       have HQ := jI fun W (hW : Below (wr.alloc (.cells #[.int .i64 e.index, .int .i64 e.term, .int .i64 e.kind, .slice Ad m cd] 151)).heap.size _ W) => cells4 ((hW.block wr.heap.size (by rw [World.size_alloc]; omega)).trans (heap_alloc_new wr (.cells #[.int .i64 e.index, .int .i64 e.term, .int .i64 e.kind, .slice Ad m cd] 151)))
       go_wp2_with (go_at_call 139; go_must (refine (HM.out _).mono ?_; rintro y w1 ⟨rfl, hb1⟩; obtain ⟨x0, x1, x2, x3⟩ := HQ.out _ hb1; have HB1 := jI hb1; clear hb1))
       go_quiet (fail)
       go_wp2_with fail
       go_roundw
       case rel => exact ⟨j + 1, e.index, e.term, by omega, by go_num, rfl, rfl, jI ⟨HBD.out.2.1, HBD.out.2.2.1, HR.out.2⟩, below_drawn (below_round HBD.out.1 ((below_alloc _ _).trans (HB1.out.mono (by rw [World.size_alloc]; omega)))) _⟩
       case measure => simp [intOf]; omega
   · obtain rfl : j = n := by omega
     have ii : ¬ (j : Int) < (j : Int) := by omega
     go_wp2_with fail
     go_ret
     exact ⟨by have := HB.out.2.2; rw [List.drop_eq_nil_of_le (by have := HH.out.2.1; omega)] at this; rw [this]; rfl, hbw⟩
end
section
theorem Check_own (A : Option Addr) (m c : Nat) (zs : List Int) (w : World) (h : Ints w (.slice A m c) zs) (k : Nat) (hk : k = (if mayC zs then 0 else 1)) :
   Calls Tryz.prog 14 #[.slice A m c] w fun y w' => y = .returned (er k) ∧ Below w.heap.size w w' := by
 have C := jI (may_own A m c zs w h _ rfl)
 cases hm : mayC zs with
 | true =>
   rw [hm, if_pos rfl] at hk
   subst hk
   rw [hm] at C
   clear h hm
   go_enter Tryz.func14, Tryz.ntmps14
   go_wp2_with (go_at_call 38; go_must (refine C.out.mono ?_; rintro y w1 ⟨rfl, rfl⟩))
   go_ret
   exact ⟨rfl, Below.refl _ _⟩
 | false =>
   rw [hm, if_neg (by simp)] at hk
   subst hk
   rw [hm] at C
   clear h hm
   go_enter Tryz.func14, Tryz.ntmps14
   go_wp2_with (go_at_call 38; go_must (refine C.out.mono ?_; rintro y w1 ⟨rfl, rfl⟩))
   go_ret
   exact ⟨rfl, Below.refl _ _⟩
end
end Go.Proofs.YtncaefocijainaaGreatDoor.pk
